/-
  Contracts of the functions that tell the roll of an outcome.
-/
import Derived.Test.YtiiknpebphpeiaaRows
import Derived.Test.YtiiknpebphpeiaaRollN
import Derived.Test.YtiiknpebphpeiaaIntsW
import Derived.Test.YtiiknpebphpeiaaDicesW
import Derived.Test.YtiiknpebphpeiaaPoolW
import Derived.Test.YtiiknpebphpeiaaAll6
import Derived.Test.YtiiknpebphpeiaaSortW
import Derived.Test.YtiiknpebphpeiaaOpenD
import Derived.WalkKit
import Derived.WalkLawsBesides
import Derived.WalkSpells
import Derived.ProofKit
import Derived.OpenShut
import Derived.Deep.RegionWith
import Derived.Deep.QuietTactic
import Derived.BigQuiet
namespace Go.Proofs.Ytiiknpebphpeiaa
open Go.ChangeShapes Go.WideShapes Go.ChangeAt Go.RowKit
open Go.ChangeMaps (open_string shut_string)

namespace RollW
open Dice Arr OpenD DieW SortW DicesW PoolW All6 IntsW

set_option maxHeartbeats 2000000 in
theorem specRoll_any (A : Option Addr) (n c : Nat) (k : Int) (P : Nat → Nat → Int) (w : World) (h : Row w A n P) (hn : n ≤ maxLen) :
    Calls Try.prog 61 #[.slice A n c, .int .i64 k] w fun e w' => ∃ A' c', e = .returned (.tuple #[.slice A' (lenR n P k) c', .bool (okR n P k)]) ∧ Ints w.heap.size w' A' (lenR n P k) (rollF P k.toNat n) ∧ Below w.heap.size w w' := by
  have hp := fun w h => l2Pool_any A n c P w h hn
  have H := Lib.hid h; clear h
  cases hq : isPool n P
  · obtain ⟨e1, e2⟩ := no_pool k hq
    rw [e1, e2]
    rw [hq] at hp
    have Hp := Lib.hid hp; clear hp hq e1 e2
    go_enter Try.func61, Try.ntmps61
    go_wp2_with fail
    refine (Hp.out _ H.out).mono ?_
    rintro e w1 ⟨rfl, hb⟩
    go_wp2_with fail
    go_ret2
    exact ⟨_, _, rfl, .inl rfl, na hb _⟩
  obtain ⟨h1, h4, hd⟩ := of_pool hq
  have Ho := Lib.hid (fun w => l2All_any n w h4)
  have Hin := Lib.hid (fun (x a b : Int) (w : World) => l1In_any x a b w)
  have h6 := all6_le h4
  rw [hq] at hp
  have Hp := Lib.hid hp; clear hp
  by_cases hk : 0 ≤ k ∧ k < (all6 n : Nat)
  · obtain ⟨e1, e2⟩ := yes_roll hq hk
    rw [e1, e2]
    clear hq e1 e2 hd
    obtain ⟨N, rfl⟩ : ∃ N : Nat, k = N := ⟨k.toNat, by omega⟩
    have hN : N < 1296 := by omega
    have hT2 : ((all6 n : Nat) : Int) - 1 ≤ 1295 ∧ 0 ≤ ((all6 n : Nat) : Int) - 1 := by omega
    have Hres : Hid (decide ((0 : Int) ≤ (N : Int) ∧ (N : Int) ≤ ((all6 n : Nat) : Int) - 1) = true) := decide_eq_true (by omega)
    have Hl := Lib.hid (fun w h => l2Roll_any A n c N P w h h4 hN)
    rw [Int.toNat_natCast]
    clear hk h6
    generalize all6 n = T at *
    go_enter Try.func61, Try.ntmps61
    go_wp2_with fail
    refine (Hp.out _ H.out).mono ?_
    rintro e w1 ⟨rfl, hb⟩
    go_wp2_with fail
    refine (Ho.out _).mono ?_
    rintro e w2 ⟨rfl, rfl⟩
    go_wp2_with fail
    refine (Hin.out _ _ _ _).mono ?_
    rintro e w3 ⟨rfl, rfl⟩
    rw [Hres.out]
    go_wp2_with fail
    refine (Hl.out _ (H.out.up hb)).mono ?_
    rintro e w4 ⟨g, rfl, hg, hA, hb4⟩
    go_wp2_with fail
    go_ret2
    exact ⟨_, _, rfl, .inr ⟨g, rfl, Nat.le_trans hb.size hg, hA⟩, nx hb hb4⟩
  · obtain ⟨e1, e2⟩ := no_number P hk
    rw [e1, e2]
    clear hq e1 e2 hd
    have hT2 : ((all6 n : Nat) : Int) - 1 ≤ 1295 ∧ 0 ≤ ((all6 n : Nat) : Int) - 1 := by omega
    have Hres : Hid (decide ((0 : Int) ≤ k ∧ k ≤ ((all6 n : Nat) : Int) - 1) = false) := decide_eq_false (by omega)
    clear hk h6
    generalize all6 n = T at *
    go_enter Try.func61, Try.ntmps61
    go_wp2_with fail
    refine (Hp.out _ H.out).mono ?_
    rintro e w1 ⟨rfl, hb⟩
    go_wp2_with fail
    refine (Ho.out _).mono ?_
    rintro e w2 ⟨rfl, rfl⟩
    go_wp2_with fail
    refine (Hin.out _ _ _ _).mono ?_
    rintro e w3 ⟨rfl, rfl⟩
    rw [Hres.out]
    go_wp2_with fail
    go_ret2
    exact ⟨_, _, rfl, .inl rfl, na hb _⟩


end RollW
end Go.Proofs.Ytiiknpebphpeiaa
