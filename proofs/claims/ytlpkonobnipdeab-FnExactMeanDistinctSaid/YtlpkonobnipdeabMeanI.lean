/-
  The mean of the numbers of a table, by the program.
-/
import Derived.Test.YtlpkonobnipdeabRows
import Derived.Test.YtlpkonobnipdeabPlaces
import Derived.Test.YtlpkonobnipdeabFracW
import Derived.Test.YtlpkonobnipdeabCutW
import Derived.Test.YtlpkonobnipdeabPoolW
import Derived.Test.YtlpkonobnipdeabSortW
import Derived.Test.YtlpkonobnipdeabDicesW
import Derived.Test.YtlpkonobnipdeabOpenD
import Derived.WalkKit
import Derived.WalkLawsBesides
import Derived.WalkSpells
import Derived.ProofKit
import Derived.OpenShut
import Derived.Deep.RegionWith
import Derived.Deep.QuietTactic
import Derived.BigQuiet
namespace Go.Proofs.Ytlpkonobnipdeab
open Go.ChangeShapes Go.WideShapes Go.ChangeAt Go.RowKit
open Go.ChangeMaps (open_string shut_string)

namespace MeanI
open Dice Arr OpenD DieW SortW DicesW FracW CutW Places

set_option maxHeartbeats 4000000 in
theorem meanOf_any (b n c N : Nat) (t : Nat → Int) (w : World) (h : At w b n t) (ht : ∀ j, 0 ≤ t j) (hN : pre t n = N) (h1 : 1 ≤ N) (h6 : N ≤ 1296) (hn : n ≤ 121) :
    Calls Try.prog 51 #[.slice (some ⟨b, 0, none⟩) n c] w fun e w' => e = .returned (cutV (wpre t n).toNat N) ∧ Below w.heap.size w w' := by
  have hR := At.new2 w 31
  have hA := h.past (.cells #[.int .i64 0, .int .i64 0] 31)
  have hbl := na (n0 w) (.cells #[.int .i64 0, .int .i64 0] 31)
  have hwb := wpre_bound ht n
  have hw2 : (n : Int) * pre t n ≤ 121 * 1296 := by
    rw [hN]
    exact Int.mul_le_mul (by omega) (by omega) (by omega) (by omega)
  obtain ⟨m, hm⟩ : ∃ m : Nat, wpre t n = m := ⟨(wpre t n).toNat, by omega⟩
  have hf := fun w => fraction_any m N w (by omega) (by omega) h1
  rw [hm, Int.toNat_natCast]
  unfold cutV
  have Hf := Lib.hid hf; clear hf
  have HM := Lib.hid (And.intro hm hN)
  have hle := fun k hk => (pre_le ht n).2 k hk
  have hat := fun k hk => pre_at (n := n) ht (k := k) hk
  rw [hN] at hle hat
  clear hm hN hwb hw2
  go_enter Try.func51, Try.ntmps51
  go_wp2_with fail
  generalize w.alloc (.cells #[.int .i64 0, .int .i64 0] 31) = W at *
  go_loopw [3, 4, 9] (fun sv ov iv wr => ∃ k : Nat, k ≤ n ∧ iv = .int .i64 k ∧ sv = .int .i64 (wpre t k) ∧ ov = .int .i64 (pre t k) ∧ wr = W) (fun _ _ iv _ => n - (intOf iv).toNat)
  case atStart => exact ⟨0, by omega, rfl, rfl, rfl, rfl⟩
  case round =>
    obtain ⟨k, hk, rfl, rfl, rfl, rfl⟩ := hrel
    by_cases hlt : k < n
    · have hit : decide ((k : Int) < (n : Int)) = true := decide_eq_true (by omega)
      have ck := hA.cell k hlt
      have p1 := hle k hk
      have p2 := hle (k + 1) hlt
      have p3 := (pre_le ht k).1
      have p4 := hat k hlt
      have p5 := ht k
      have p6 := wpre_bound ht k
      have p7 : (k : Int) * pre t k ≤ 121 * 1296 := Int.mul_le_mul (by omega) (by omega) (by omega) (by omega)
      have p8 : 0 ≤ (k : Int) * t k ∧ (k : Int) * t k ≤ 121 * 1296 := ⟨Int.mul_nonneg (by omega) p5, Int.mul_le_mul (by omega) (by omega) (by omega) (by omega)⟩
      have p9 : 0 ≤ wpre t k ∧ wpre t k ≤ 121 * 1296 := ⟨p6.1, by omega⟩
      have e1 : Hid (wpre t (k + 1) = wpre t k + (k : Int) * t k) := rfl
      have e2 : Hid (pre t (k + 1) = pre t k + t k) := rfl
      clear hle hat ht p6 p7
      go_wp2_with fail
      go_roundw
      case rel => exact ⟨k + 1, by omega, by go_num, by rw [e1.out] <;> first | rfl | go_num, by rw [e2.out] <;> first | rfl | go_num, by first | rfl | trivial⟩
      case measure => simp [intOf]; omega
    · obtain rfl : k = n := by omega
      rw [HM.out.1, HM.out.2]
      have hit : decide ((k : Int) < (k : Int)) = false := decide_eq_false (by omega)
      clear hlt hle hat ht
      go_wp2_with fail
      refine (Hf.out _).mono ?_
      rintro e w3 ⟨rfl, hb3⟩
      have hbl := nx hbl hb3
      have hR := hR.up hb3
      clear hb3
      have c0 := hR.cell 0 (by omega)
      have c1 := hR.cell 1 (by omega)
      have z0 := hR.free 0
      have z1 := hR.free 1
      go_wp2_with fail
      refine ret_cell (b := w.heap.size) (n := 2) (f := fr ((m : Int) / (Nat.gcd m N : Nat)) ((N : Int) / (Nat.gcd m N : Nat))) Try.results51 rfl Try.underlying31 (by kernel_rfl) (fin2' hR _ _) rfl ⟨rfl, ?_⟩
      exact (hbl.setCell (p := ⟨w.heap.size, 0, none⟩) (Nat.le_refl _) _).setCell (p := ⟨w.heap.size, 1, none⟩) (Nat.le_refl _) _



end MeanI
end Go.Proofs.Ytlpkonobnipdeab
