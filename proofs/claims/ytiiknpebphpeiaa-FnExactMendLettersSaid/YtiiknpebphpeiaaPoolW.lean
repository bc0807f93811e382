/-
  Contracts of the functions that tell a pool, in the program and in its model.
-/
import Derived.Test.YtiiknpebphpeiaaRows
import Derived.Test.YtiiknpebphpeiaaDieW
import Derived.Test.YtiiknpebphpeiaaSortW
import Derived.Test.YtiiknpebphpeiaaOpenD
import Derived.WalkKit
import Derived.WalkLawsBesides
import Derived.WalkSpells
import Derived.Lib.Hide
import Derived.Deep.RegionWith
import Derived.Deep.QuietTactic
import Derived.BigQuiet
namespace Go.Proofs.Ytiiknpebphpeiaa
open Go.RowKit

namespace PoolW
open Dice Arr OpenD DieW SortW

/-- The first n are dice. -/
def pooled (P : Nat → Nat → Int) (n : Nat) : Prop := ∀ i, i < n → isDie (P i) = true
instance (P : Nat → Nat → Int) (n : Nat) : Decidable (pooled P n) := by unfold pooled; infer_instance
def isPool (n : Nat) (P : Nat → Nat → Int) : Bool := decide (1 ≤ n ∧ n ≤ 4) && decide (pooled P n)
/-- A list of 1 to t dice. -/
def many (t n : Nat) (P : Nat → Nat → Int) : Bool := decide (1 ≤ n ∧ n ≤ t) && decide (pooled P n)
theorem isPool_many (n : Nat) (P : Nat → Nat → Int) : isPool n P = many 4 n P := rfl
theorem many_no {t n : Nat} {P : Nat → Nat → Int} {k : Nat} (hk : k < n) (h : isDie (P k) = false) : many t n P = false := by
  unfold many
  have hno : ¬ pooled P n := fun hp => Bool.noConfusion ((hp k hk).symm.trans h)
  rw [decide_eq_false hno, Bool.and_false]
theorem many_len {t n : Nat} {P : Nat → Nat → Int} (h : n < 1 ∨ t < n) : many t n P = false := by
  unfold many
  rw [decide_eq_false (by omega), Bool.false_and]
theorem many_yes {t n : Nat} {P : Nat → Nat → Int} (h1 : 1 ≤ n) (h4 : n ≤ t) (h : pooled P n) : many t n P = true := by
  unfold many
  rw [decide_eq_true ⟨h1, h4⟩, decide_eq_true h]
  rfl
theorem of_many {t n : Nat} {P : Nat → Nat → Int} (h : many t n P = true) : 1 ≤ n ∧ n ≤ t ∧ pooled P n := by
  unfold many at h
  simp only [Bool.and_eq_true, decide_eq_true_eq] at h
  exact ⟨h.1.1, h.1.2, h.2⟩
theorem pool_no {n : Nat} {P : Nat → Nat → Int} {k : Nat} (hk : k < n) (h : isDie (P k) = false) : isPool n P = false := by
  unfold isPool
  have hno : ¬ pooled P n := fun hp => Bool.noConfusion ((hp k hk).symm.trans h)
  rw [decide_eq_false hno, Bool.and_false]
theorem pool_len {n : Nat} {P : Nat → Nat → Int} (h : n < 1 ∨ 4 < n) : isPool n P = false := by
  unfold isPool
  rw [decide_eq_false (by omega), Bool.false_and]
theorem pool_yes {n : Nat} {P : Nat → Nat → Int} (h1 : 1 ≤ n) (h4 : n ≤ 4) (h : pooled P n) : isPool n P = true := by
  unfold isPool
  rw [decide_eq_true ⟨h1, h4⟩, decide_eq_true h]
  rfl
theorem of_pool {n : Nat} {P : Nat → Nat → Int} (h : isPool n P = true) : 1 ≤ n ∧ n ≤ 4 ∧ pooled P n := by
  unfold isPool at h
  simp only [Bool.and_eq_true, decide_eq_true_eq] at h
  exact ⟨h.1.1, h.1.2, h.2⟩

set_option maxHeartbeats 2000000 in
theorem l2Pool_any (A : Option Addr) (n c : Nat) (P : Nat → Nat → Int) (w : World) (h : Row w A n P) (hn : n ≤ maxLen) :
    Calls Try.prog 71 #[.slice A n c] w fun e w' => e = .returned (.bool (isPool n P)) ∧ Below w.heap.size w w' := by
  unfold maxLen at hn
  have H := Lib.hid h; clear h
  have hl := l2Die_any
  unfold dv at hl
  have Hl := Lib.hid hl; clear hl
  have Hin := Lib.hid (fun (x a b : Int) (w : World) => l1In_any x a b w)
  go_enter Try.func71, Try.ntmps71
  go_wp2_with fail
  go_loopw [3] (fun i wr => ∃ k : Nat, k ≤ n ∧ k ≤ 5 ∧ i = .int .i64 k ∧ Below w.heap.size w wr ∧ Hid (pooled P k)) (fun i _ => 5 - (intOf i).toNat)
  case atStart => exact ⟨0, by omega, by omega, rfl, Below.refl _ _, fun i hi => by omega⟩
  case round =>
    obtain ⟨k, hk, hk5, rfl, hb, hp⟩ := hrel
    by_cases hlt : k < n ∧ k ≤ 4
    · obtain ⟨hlt, h4⟩ := hlt
      obtain ⟨bk, o, rfl, hbk, hc⟩ := (H.out.below (Nat.le_refl _) hb).at_ hlt
      have c0 := hc 0 (by omega)
      have c1 := hc 1 (by omega)
      have c2 := hc 2 (by omega)
      have c3 := hc 3 (by omega)
      have c4 := hc 4 (by omega)
      have c5 := hc 5 (by omega)
      simp only [← Nat.add_assoc, Nat.add_zero] at c0 c1 c2 c3 c4 c5
      have Hlk := Lib.hid (Hl.out (P k))
      cases hd : isDie (P k)
      · have hr := Lib.hid (pool_no hlt hd)
        rw [hd] at Hlk
        go_wp2_with fail
        refine (Hlk.out _).mono ?_
        rintro e w2 ⟨rfl, hb2⟩
        go_wp2_with fail
        go_ret
        exact ⟨by rw [hr.out]; rfl, nx hb hb2⟩
      · have hp' : Hid (pooled P (k + 1)) := fun i hi => by
          by_cases hik : i = k
          · subst hik
            exact hd
          · exact hp.out i (by omega)
        rw [hd] at Hlk
        clear hd
        go_wp2_with fail
        refine (Hlk.out _).mono ?_
        rintro e w2 ⟨rfl, hb2⟩
        go_wp2_with fail
        go_roundw
        case rel => exact ⟨k + 1, by omega, by omega, by go_num, nx hb hb2, hp'⟩
        case measure => simp [intOf]; omega
    · have hres : Hid (decide ((1 : Int) ≤ (n : Int) ∧ (n : Int) ≤ 4) = isPool n P) := by
        show decide ((1 : Int) ≤ (n : Int) ∧ (n : Int) ≤ 4) = isPool n P
        by_cases hn5 : n ≤ 4
        · obtain rfl : k = n := by omega
          unfold isPool
          rw [decide_eq_true (p := pooled P k) hp.out, Bool.and_true]
          exact decide_eq_decide.2 (by omega)
        · rw [pool_len (by omega)]
          exact decide_eq_false (by omega)
      by_cases hkn : k < n
      · obtain rfl : k = 5 := by omega
        go_wp2_with fail
        refine (Hin.out _ _ _ _).mono ?_
        rintro e w2 ⟨rfl, rfl⟩
        go_wp2_with fail
        go_ret
        exact ⟨by rw [← hres.out, Bool.decide_and]; rfl, hb⟩
      · obtain rfl : k = n := by omega
        go_wp2_with fail
        refine (Hin.out _ _ _ _).mono ?_
        rintro e w2 ⟨rfl, rfl⟩
        go_wp2_with fail
        go_ret
        exact ⟨by rw [← hres.out, Bool.decide_and]; rfl, hb⟩

set_option maxHeartbeats 2000000 in
theorem areDice_any (t : Nat) (ht : t ≤ 6) (A : Option Addr) (n c : Nat) (P : Nat → Nat → Int) (w : World) (h : Row w A n P) (hn : n ≤ maxLen) :
    Calls Try.prog 98 #[.slice A n c, .int .i64 t] w fun e w' => e = .returned (.bool (many t n P)) ∧ Below w.heap.size w w' := by
  unfold maxLen at hn
  have H := Lib.hid h; clear h
  have hl := implIsDie_any
  unfold dv at hl
  have Hl := Lib.hid hl; clear hl
  by_cases hlen : n < 1 ∨ t < n
  · rw [many_len hlen]
    go_enter Try.func98, Try.ntmps98
    rcases hlen with h1 | h4
    · go_wp2_with fail
      go_ret
      exact ⟨rfl, Below.refl _ _⟩
    · by_cases h1 : n < 1
      · exact absurd h4 (by omega)
      · have hd : decide (t < n) = true := decide_eq_true h4
        go_wp2_with fail
        go_ret
        exact ⟨rfl, Below.refl _ _⟩
  · have h1 : 1 ≤ n := by omega
    have h4 : n ≤ t := by omega
    have hd : decide (t < n) = false := decide_eq_false (by omega)
    clear hlen
    go_enter Try.func98, Try.ntmps98
    go_wp2_with fail
    go_loopw [18] (fun i wr => ∃ k : Nat, k ≤ n ∧ i = .int .i64 k ∧ Below w.heap.size w wr ∧ Hid (pooled P k)) (fun i _ => n - (intOf i).toNat)
    case atStart => exact ⟨0, by omega, rfl, Below.refl _ _, fun i hi => by omega⟩
    case round =>
      obtain ⟨k, hk, rfl, hb, hp⟩ := hrel
      by_cases hlt : k < n
      · obtain ⟨bk, o, rfl, hbk, hc⟩ := (H.out.below (Nat.le_refl _) hb).at_ hlt
        have c0 := hc 0 (by omega)
        have c1 := hc 1 (by omega)
        have c2 := hc 2 (by omega)
        have c3 := hc 3 (by omega)
        have c4 := hc 4 (by omega)
        have c5 := hc 5 (by omega)
        simp only [← Nat.add_assoc, Nat.add_zero] at c0 c1 c2 c3 c4 c5
        have Hlk := Lib.hid (Hl.out (P k))
        cases hdk : isDie (P k)
        · have hr := Lib.hid (many_no (t := t) hlt hdk)
          rw [hdk] at Hlk
          go_wp2_with fail
          refine (Hlk.out _).mono ?_
          rintro e w2 ⟨rfl, hb2⟩
          go_wp2_with fail
          go_ret
          exact ⟨by rw [hr.out]; rfl, nx (na hb _) hb2⟩
        · have hp' : Hid (pooled P (k + 1)) := fun i hi => by
            by_cases hik : i = k
            · subst hik
              exact hdk
            · exact hp.out i (by omega)
          rw [hdk] at Hlk
          clear hdk
          go_wp2_with fail
          refine (Hlk.out _).mono ?_
          rintro e w2 ⟨rfl, hb2⟩
          go_wp2_with fail
          go_roundw
          case rel => exact ⟨k + 1, by omega, by go_num, nx (na hb _) hb2, hp'⟩
          case measure => simp [intOf]; omega
      · obtain rfl : k = n := by omega
        have hr := Lib.hid (many_yes h1 h4 hp.out)
        go_wp2_with fail
        go_ret
        exact ⟨by rw [hr.out]; rfl, hb⟩

set_option maxHeartbeats 2000000 in
theorem implIsPool_any (A : Option Addr) (n c : Nat) (P : Nat → Nat → Int) (w : World) (h : Row w A n P) (hn : n ≤ maxLen) :
    Calls Try.prog 73 #[.slice A n c] w fun e w' => e = .returned (.bool (isPool n P)) ∧ Below w.heap.size w w' := by
  rw [isPool_many]
  have Ha := Lib.hid (areDice_any 4 (by omega) A n c P w h hn)
  clear h hn
  go_enter Try.func73, Try.ntmps73
  go_wp2_with fail
  refine Ha.out.mono ?_
  rintro e w1 ⟨rfl, hb⟩
  go_wp2_with fail
  go_ret
  exact ⟨rfl, hb⟩

end PoolW
end Go.Proofs.Ytiiknpebphpeiaa
