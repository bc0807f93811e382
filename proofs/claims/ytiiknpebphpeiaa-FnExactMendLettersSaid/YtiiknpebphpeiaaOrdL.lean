/-
  OrdersOf of both sides.
-/
import Derived.Test.YtiiknpebphpeiaaRows
import Derived.Test.YtiiknpebphpeiaaArr
import Derived.Test.YtiiknpebphpeiaaDieW
import Derived.Test.YtiiknpebphpeiaaSortW
import Derived.Test.YtiiknpebphpeiaaDicesW
import Derived.Test.YtiiknpebphpeiaaPoolW
import Derived.Test.YtiiknpebphpeiaaAll6
import Derived.Test.YtiiknpebphpeiaaIntsW
import Derived.Test.YtiiknpebphpeiaaRollN
import Derived.Test.YtiiknpebphpeiaaRollS
import Derived.Test.YtiiknpebphpeiaaFour
import Derived.Test.YtiiknpebphpeiaaOrdM
import Derived.Test.YtiiknpebphpeiaaOrdT
import Derived.Test.YtiiknpebphpeiaaOrdW
import Derived.Test.YtiiknpebphpeiaaOrdK
import Derived.Test.YtiiknpebphpeiaaShelfMax
import Derived.Test.YtiiknpebphpeiaaOrdS
import Derived.Test.YtiiknpebphpeiaaOrdN
import Derived.Test.YtiiknpebphpeiaaOpenD
import Derived.WalkKit
import Derived.WalkLawsBesides
import Derived.WalkSpells
import Derived.ProofKit
import Derived.OpenShut
import Derived.Deep.RegionWith
import Derived.Deep.QuietTactic
import Derived.BigQuiet
namespace Go.Proofs.Ytiiknpebphpeiaa
open Go.ChangeShapes Go.WideShapes Go.ChangeAt Go.RowKit
open Go.ChangeMaps (open_string shut_string)

namespace OrdL
open Dice Arr OpenD DieW SortW DicesW PoolW All6 IntsW RollW Four OrdM OrdT OrdW OrdK OrdS OrdN


/-- What OrdersOf answers. -/
def okL (n : Int) : Bool := decide (1 ≤ n ∧ n ≤ 4)
def outL (n : Int) : List Q4 := if okL n then ordL n.toNat else []
theorem outL_no {n : Int} (h : ¬ (1 ≤ n ∧ n ≤ 4)) : okL n = false ∧ outL n = [] := by
  have e : okL n = false := decide_eq_false h
  exact ⟨e, by unfold outL; rw [e]; rfl⟩
theorem outL_yes {n : Nat} (h : 1 ≤ n ∧ n ≤ 4) : okL n = true ∧ outL n = ordL n := by
  have e : okL n = true := decide_eq_true (by omega)
  exact ⟨e, by unfold outL; rw [e, Int.toNat_natCast]; rfl⟩
theorem outL_len (n : Int) : (outL n).length ≤ 24 := by
  by_cases h : 1 ≤ n ∧ n ≤ 4
  · obtain ⟨m, rfl⟩ : ∃ m : Nat, n = m := ⟨n.toNat, by omega⟩
    rw [(outL_yes (by omega)).2]
    exact (ordI_len (by omega) (by omega) m (Nat.le_refl _)).1
  · rw [(outL_no h).2]
    exact Nat.zero_le _
set_option maxHeartbeats 4000000 in
theorem specOL_any (n : Int) (w : World) :
    Calls Try.prog 24 #[.int .i64 n] w fun e w' => ∃ A c, e = .returned (.tuple #[.slice A (outL n).length c, .bool (okL n)]) ∧ Ords w.heap.size w' A (outL n).length (ofL (outL n)) ∧ Below w.heap.size w w' := by
  have Hin := Lib.hid (fun w => l1In_any n 1 4 w)
  by_cases h : 1 ≤ n ∧ n ≤ 4
  · obtain ⟨m, rfl⟩ : ∃ m : Nat, n = m := ⟨n.toNat, by omega⟩
    obtain ⟨e1, e2⟩ := outL_yes (n := m) (by omega)
    rw [e1, e2]
    have hd : decide ((1 : Int) ≤ (m : Int) ∧ (m : Int) ≤ 4) = true := decide_eq_true h
    rw [hd] at Hin
    have Hs := Lib.hid (fun w => specOrders_any m w (by omega) (by omega))
    clear e1 e2 hd h
    have Hin := Lib.hid Hin
    go_enter Try.func24, Try.ntmps24
    go_wp2_with fail
    refine (Hin.out _).mono ?_
    rintro e w1 ⟨rfl, hw⟩
    have hw := hw.symm
    subst hw
    go_wp2_with fail
    refine (Hs.out _).mono ?_
    rintro e w2 ⟨A, c, rfl, hF, hb⟩
    go_wp2_with fail
    go_ret2
    exact ⟨A, c, rfl, hF, hb⟩
  · obtain ⟨e1, e2⟩ := outL_no h
    rw [e1, e2]
    have hd : decide (1 ≤ n ∧ n ≤ 4) = false := decide_eq_false h
    rw [hd] at Hin
    clear e1 e2 hd h
    have Hin := Lib.hid Hin
    go_enter Try.func24, Try.ntmps24
    go_wp2_with fail
    refine (Hin.out _).mono ?_
    rintro e w1 ⟨rfl, hw⟩
    have hw := hw.symm
    subst hw
    go_wp2_with fail
    go_ret2
    exact ⟨_, _, rfl, .inl rfl, na (n0 _) _⟩

set_option maxRecDepth 20000 in
set_option maxHeartbeats 4000000 in
theorem implOL_any (n : Int) (w : World) :
    Calls Try.prog 25 #[.int .i64 n] w fun e w' => ∃ A c, e = .returned (.tuple #[.slice A (outL n).length c, .bool (okL n)]) ∧ Ords w.heap.size w' A (outL n).length (ofL (outL n)) ∧ Below w.heap.size w w' := by
  by_cases h : 1 ≤ n ∧ n ≤ 4
  · obtain ⟨m, rfl⟩ : ∃ m : Nat, n = m := ⟨n.toNat, by omega⟩
    obtain ⟨e1, e2⟩ := outL_yes (n := m) (by omega)
    rw [e1, e2]
    have hd1 : decide ((m : Int) < 1) = false := decide_eq_false (by omega)
    have hd2 : decide (4 < (m : Int)) = false := decide_eq_false (by omega)
    have hd1N : decide (m < 1) = false := decide_eq_false (by omega)
    have hd2N : decide (4 < m) = false := decide_eq_false (by omega)
    have He := Lib.hid empty_any
    have Hil := Lib.hid (fun t (ht : t ≤ m) => ordI_len (n := m) (by omega) (by omega) t ht)
    have Hn := Lib.hid (fun B A c os t w hF ht hl => next_any B A c os m t w hF (by omega) ht hl)
    have hm4 : m ≤ 4 := by omega
    clear e1 e2 h
    go_enter Try.func25, Try.ntmps25
    go_wp2_with fail
    refine (He.out _).mono ?_
    rintro e w1 ⟨rfl, hb⟩
    have hX := At.new4 w1 (fun _ => -1) 26 rfl
    have hB := na hb (fourO (fun _ => -1) 26)
    have hsz := hb.size
    have hlb := hX.lt
    clear hb
    go_wp2_with fail
    go_loopw [4, 15] (fun v iv wr => ∃ (t : Nat) (A : Option Addr) (c : Nat), t ≤ m ∧ iv = .int .i64 t ∧ v = .slice A (ordI m t).length c ∧ Ords w.heap.size wr A (ordI m t).length (ofL (ordI m t)) ∧ Below w.heap.size w wr) (fun _ iv _ => m - (intOf iv).toNat)
    case atStart =>
      exact ⟨0, some ⟨w1.heap.size, 0, none⟩, 1, Nat.zero_le _, rfl, rfl, .inr ⟨_, rfl, hsz, hX.congr fun k hk => by
        have hk : k < 4 := hk
        obtain rfl | rfl | rfl | rfl : k = 0 ∨ k = 1 ∨ k = 2 ∨ k = 3 := by omega
        all_goals rfl⟩, hB⟩
    case round =>
      clear hX hB
      obtain ⟨t, A, c, ht, rfl, rfl, hF, hB⟩ := hrel
      by_cases hlt : t < m
      · have hit : decide ((t : Int) < (m : Int)) = true := decide_eq_true (by omega)
        have hitN : decide (t < m) = true := decide_eq_true hlt
        have hl24 := (Hil.out t ht).1
        have Hst : Hid (ordI m (t + 1) = exts (ordI m t) m t) := rfl
        generalize ordI m t = os at *
        go_wp2_with fail
        refine (Hn.out _ _ _ _ _ _ hF (by omega) hl24).mono ?_
        rintro e w2 ⟨A2, c2, rfl, hF2, hb⟩
        have hF3 := hF2.mono hB.size
        have hB2 := nx hB hb
        clear hF2 hb hF hB
        go_wp2_with fail
        go_roundw
        case rel => exact ⟨t + 1, A2, c2, by omega, by go_num, by rw [Hst.out], by rw [Hst.out]; exact hF3, hB2⟩
        case measure => simp [intOf]; omega
      · obtain rfl : t = m := by omega
        have hit : decide ((t : Int) < (t : Int)) = false := decide_eq_false (by omega)
        have Hst : Hid (ordL t = ordI t t) := rfl
        go_wp2_with fail
        go_ret2
        exact ⟨A, c, by rw [Hst.out]; rfl, by rw [Hst.out]; exact hF, hB⟩
  · obtain ⟨e1, e2⟩ := outL_no h
    rw [e1, e2]
    clear e1 e2
    by_cases h1 : n < 1
    · have hd1 : decide (n < 1) = true := decide_eq_true h1
      clear h
      go_enter Try.func25, Try.ntmps25
      go_wp2_with fail
      go_ret2
      exact ⟨none, 0, rfl, .inl rfl, n0 _⟩
    · have hd1 : decide (n < 1) = false := decide_eq_false h1
      have hd2 : decide (4 < n) = true := decide_eq_true (by omega)
      clear h
      go_enter Try.func25, Try.ntmps25
      go_wp2_with fail
      go_ret2
      exact ⟨none, ⟨0, rfl⟩, .inl rfl, n0 _⟩


end OrdL
end Go.Proofs.Ytiiknpebphpeiaa
