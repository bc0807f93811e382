/-
  The least and the greatest faces of a pool, added up.
-/
import Derived.Test.YtjdijbidpcjjdaaRows
import Derived.Test.YtjdijbidpcjjdaaSumsM
import Derived.Test.YtjdijbidpcjjdaaPoolW
import Derived.Test.YtjdijbidpcjjdaaFracW
import Derived.Test.YtjdijbidpcjjdaaSortW
import Derived.Test.YtjdijbidpcjjdaaOpenD
import Derived.WalkKit
import Derived.WalkLawsBesides
import Derived.WalkSpells
import Derived.ProofKit
import Derived.OpenShut
import Derived.Deep.RegionWith
import Derived.Deep.QuietTactic
import Derived.BigQuiet
namespace Go.Proofs.Ytjdijbidpcjjdaa
open Go.ChangeShapes Go.WideShapes Go.ChangeAt Go.RowKit
open Go.ChangeMaps (open_string shut_string)

namespace SumsB
open Dice Arr OpenD DieW SortW PoolW FracW SumsW

theorem least_any (d : Nat → Int) (w : World) :
    Calls Try.prog 70 #[dv d] w fun e w' => e = .returned (.int .i64 (d 0)) ∧ Below w.heap.size w w' := by
  unfold dv
  go_enter Try.func70, Try.ntmps70
  go_wp2_with fail
  go_ret
  exact ⟨rfl, na (n0 w) _⟩
theorem greatest_any (d : Nat → Int) (w : World) :
    Calls Try.prog 71 #[dv d] w fun e w' => e = .returned (.int .i64 (d 5)) ∧ Below w.heap.size w w' := by
  unfold dv
  go_enter Try.func71, Try.ntmps71
  go_wp2_with fail
  go_ret
  exact ⟨rfl, na (n0 w) _⟩

set_option maxHeartbeats 1000000 in
theorem addUp_least (F : (Nat → Int) → Int) (A : Option Addr) (n c : Nat) (P : Nat → Nat → Int) (w : World) (h : Row w A n P) (hn : n ≤ 4)
    (hF : ∀ i, i < n → 0 ≤ F (P i) ∧ F (P i) ≤ 100000)
    (hcall : ∀ i, i < n → ∀ w, Calls Try.prog 70 #[dv (P i)] w fun e w' => e = .returned (.int .i64 (F (P i))) ∧ Below w.heap.size w w') :
    Calls Try.prog 69 #[.slice A n c, .func (Fn.func 70) #[] #[]] w fun e w' => e = .returned (.int .i64 (tot F P n)) ∧ Below w.heap.size w w' := by
  have H := Lib.hid h; clear h
  unfold dv at hcall
  have Hc := Lib.hid hcall; clear hcall
  have Hb := Lib.hid (tot_bound hF)
  go_enter Try.func69, Try.ntmps69
  go_wp2_with fail
  go_loopw [5, 10] (fun s i wr => ∃ k : Nat, k ≤ n ∧ i = .int .i64 k ∧ s = .int .i64 (tot F P k) ∧ Below w.heap.size w wr) (fun _ i _ => n - (intOf i).toNat)
  case atStart => exact ⟨0, by omega, rfl, rfl, n0 w⟩
  case round =>
    obtain ⟨k, hk, rfl, rfl, hb⟩ := hrel
    by_cases hlt : k < n
    · obtain ⟨bk, o, rfl, hbk, hc⟩ := (H.out.below (Nat.le_refl _) hb).at_ hlt
      have c0 := hc 0 (by omega)
      have c1 := hc 1 (by omega)
      have c2 := hc 2 (by omega)
      have c3 := hc 3 (by omega)
      have c4 := hc 4 (by omega)
      have c5 := hc 5 (by omega)
      simp only [← Nat.add_assoc, Nat.add_zero] at c0 c1 c2 c3 c4 c5
      have b1 := Hb.out k hk
      have b2 := hF k hlt
      have b3 : tot F P (k + 1) = tot F P k + F (P k) := rfl
      have B3 := Lib.hid b3; clear b3
      have Hck := Lib.hid (Hc.out k hlt)
      go_wp2_with fail
      refine (Hck.out _).mono ?_
      rintro e w2 ⟨rfl, hb2⟩
      have hB2 := nx (na hb _) hb2
      clear hb2 c0 c1 c2 c3 c4 c5
      go_wp2_with fail
      go_roundw
      case rel => exact ⟨k + 1, by omega, by go_num, by rw [B3.out], hB2⟩
      case measure => simp [intOf]; omega
    · obtain rfl : k = n := by omega
      go_wp2_with fail
      go_ret
      exact ⟨rfl, hb⟩

set_option maxHeartbeats 1000000 in
theorem addUp_greatest (F : (Nat → Int) → Int) (A : Option Addr) (n c : Nat) (P : Nat → Nat → Int) (w : World) (h : Row w A n P) (hn : n ≤ 4)
    (hF : ∀ i, i < n → 0 ≤ F (P i) ∧ F (P i) ≤ 100000)
    (hcall : ∀ i, i < n → ∀ w, Calls Try.prog 71 #[dv (P i)] w fun e w' => e = .returned (.int .i64 (F (P i))) ∧ Below w.heap.size w w') :
    Calls Try.prog 69 #[.slice A n c, .func (Fn.func 71) #[] #[]] w fun e w' => e = .returned (.int .i64 (tot F P n)) ∧ Below w.heap.size w w' := by
  have H := Lib.hid h; clear h
  unfold dv at hcall
  have Hc := Lib.hid hcall; clear hcall
  have Hb := Lib.hid (tot_bound hF)
  go_enter Try.func69, Try.ntmps69
  go_wp2_with fail
  go_loopw [5, 10] (fun s i wr => ∃ k : Nat, k ≤ n ∧ i = .int .i64 k ∧ s = .int .i64 (tot F P k) ∧ Below w.heap.size w wr) (fun _ i _ => n - (intOf i).toNat)
  case atStart => exact ⟨0, by omega, rfl, rfl, n0 w⟩
  case round =>
    obtain ⟨k, hk, rfl, rfl, hb⟩ := hrel
    by_cases hlt : k < n
    · obtain ⟨bk, o, rfl, hbk, hc⟩ := (H.out.below (Nat.le_refl _) hb).at_ hlt
      have c0 := hc 0 (by omega)
      have c1 := hc 1 (by omega)
      have c2 := hc 2 (by omega)
      have c3 := hc 3 (by omega)
      have c4 := hc 4 (by omega)
      have c5 := hc 5 (by omega)
      simp only [← Nat.add_assoc, Nat.add_zero] at c0 c1 c2 c3 c4 c5
      have b1 := Hb.out k hk
      have b2 := hF k hlt
      have b3 : tot F P (k + 1) = tot F P k + F (P k) := rfl
      have B3 := Lib.hid b3; clear b3
      have Hck := Lib.hid (Hc.out k hlt)
      go_wp2_with fail
      refine (Hck.out _).mono ?_
      rintro e w2 ⟨rfl, hb2⟩
      have hB2 := nx (na hb _) hb2
      clear hb2 c0 c1 c2 c3 c4 c5
      go_wp2_with fail
      go_roundw
      case rel => exact ⟨k + 1, by omega, by go_num, by rw [B3.out], hB2⟩
      case measure => simp [intOf]; omega
    · obtain rfl : k = n := by omega
      go_wp2_with fail
      go_ret
      exact ⟨rfl, hb⟩



end SumsB
end Go.Proofs.Ytjdijbidpcjjdaa
