/-
  OrderWays and TieWays of the program.
-/
import Derived.Test.YtiiknpebphpeiaaRows
import Derived.Test.YtiiknpebphpeiaaArr
import Derived.Test.YtiiknpebphpeiaaDieW
import Derived.Test.YtiiknpebphpeiaaSortW
import Derived.Test.YtiiknpebphpeiaaDicesW
import Derived.Test.YtiiknpebphpeiaaPoolW
import Derived.Test.YtiiknpebphpeiaaAll6
import Derived.Test.YtiiknpebphpeiaaIntsW
import Derived.Test.YtiiknpebphpeiaaRollN
import Derived.Test.YtiiknpebphpeiaaRollS
import Derived.Test.YtiiknpebphpeiaaFour
import Derived.Test.YtiiknpebphpeiaaOrdM
import Derived.Test.YtiiknpebphpeiaaOrdT
import Derived.Test.YtiiknpebphpeiaaOrdW
import Derived.Test.YtiiknpebphpeiaaOrdO
import Derived.Test.YtiiknpebphpeiaaOrdI
import Derived.Test.YtiiknpebphpeiaaOrdK
import Derived.Test.YtiiknpebphpeiaaAnyR
import Derived.Test.YtiiknpebphpeiaaMapO
import Derived.Test.YtiiknpebphpeiaaShelfMax
import Derived.Test.YtiiknpebphpeiaaOrdN
import Derived.Test.YtiiknpebphpeiaaOrdL
import Derived.Test.YtiiknpebphpeiaaCntI
import Derived.Test.YtiiknpebphpeiaaOwnL
import Derived.Test.YtiiknpebphpeiaaWayI
import Derived.Test.YtiiknpebphpeiaaOpenD
import Derived.WalkKit
import Derived.WalkLawsBesides
import Derived.WalkSpells
import Derived.ProofKit
import Derived.OpenShut
import Derived.Deep.RegionWith
import Derived.Deep.QuietTactic
import Derived.BigQuiet
namespace Go.Proofs.Ytiiknpebphpeiaa
open Go.ChangeShapes Go.WideShapes Go.ChangeAt Go.RowKit
open Go.ChangeMaps (open_string shut_string)

namespace WayJ
open Dice Arr OpenD DieW SortW DicesW PoolW All6 IntsW RollW Four OwnL OrdM OrdT OrdW OrdO OrdI OrdK AnyR MapO OrdN OrdL CntI WayI


def mW (n : Nat) (P : Nat → Nat → Int) : Nat := if isPool n P then (ordL n).length else 0
def fW (n : Nat) (P : Nat → Nat → Int) : Nat → Int := wf (cnt (gO P n) (all6 n)) (ordL n)
theorem mW_le (n : Nat) (P : Nat → Nat → Int) : mW n P ≤ 24 := by
  unfold mW
  cases h : isPool n P
  · exact Nat.zero_le _
  · obtain ⟨h1, h4, _⟩ := of_pool h
    exact (ordI_len h1 h4 n (Nat.le_refl _)).1
theorem cnt_small {n : Nat} (P : Nat → Nat → Int) (h4 : n ≤ 4) (q : Q4) : cnt (gO P n) (all6 n) q ≤ 1296 := Nat.le_trans (cnt_le _ _ _) (all6_le h4).1
/-- Number of ties. -/
def tW (n : Nat) (P : Nat → Nat → Int) : Int := if isPool n P then (nos (gO P n) (all6 n) : Nat) else 0
theorem fresh_row {w : World} {A : Option Addr} {n : Nat} {P : Nat → Nat → Int} (h : Row w A n P) (h1 : 1 ≤ n) : ∀ b o, A = some ⟨b, o, none⟩ → b ≠ w.heap.size := by
  rintro b o rfl
  rcases h with h | ⟨b', o', e, hb, _⟩
  · omega
  · injection e with e
    injection e with e
    omega
theorem below_of_grown {w a : World} (h : w.grownBy a (some w.heap.size)) : Below w.heap.size w a := ⟨h.os, h.tape, h.output, h.size, fun i hi => h.block i hi (fun e => by injection e with e; omega)⟩
theorem below_map {w a : World} (h : (w.alloc (.map #[] 0)).grownBy a (some w.heap.size)) : Below w.heap.size w a :=
  (na (n0 w) (.map #[] 0)).trans ⟨h.os, h.tape, h.output, h.size, fun i hi => h.block i (by rw [size_alloc]; omega) (fun e => by injection e with e; omega)⟩

set_option maxRecDepth 20000 in
set_option maxHeartbeats 4000000 in
theorem implWays_any (A : Option Addr) (n c : Nat) (P : Nat → Nat → Int) (w : World) (h : Row w A n P) (hn : n ≤ maxLen) :
    Calls Try.prog 30 #[.slice A n c] w fun e w' => ∃ A' c', e = .returned (.tuple #[.slice A' (mW n P) c', .bool (isPool n P)]) ∧ Ints w.heap.size w' A' (mW n P) (fW n P) ∧ Below w.heap.size w w' := by
  have Hp := Lib.hid (fun w h => implIsPool_any A n c P w h hn)
  cases hq : isPool n P
  · have e1 : mW n P = 0 := by unfold mW; rw [hq]; rfl
    rw [e1]
    rw [hq] at Hp
    have Hp := Lib.hid Hp
    clear hq e1
    go_enter Try.func30, Try.ntmps30
    go_wp2_with fail
    refine (Hp.out _ h).mono ?_
    rintro e w1 ⟨rfl, hb⟩
    go_wp2_with fail
    go_ret2
    exact ⟨none, 0, rfl, .inl rfl, hb⟩
  · have e1 : mW n P = (ordL n).length := by unfold mW; rw [hq]; rfl
    rw [e1]
    rw [hq] at Hp
    have Hp := Lib.hid Hp
    obtain ⟨h1, h4, _⟩ := of_pool hq
    have Hc := Lib.hid (fun m w h hm hM => count_any A n c m 0 (fun _ => 0) P w h hm hq hM)
    have Hw := Lib.hid (fun m k w hM => inOrder_any m k n (cnt (gO P n) (all6 n)) w hM h1 h4 (cnt_small P h4))
    have HE : Hid (fW n P = wf (cnt (gO P n) (all6 n)) (ordL n)) := rfl
    have hmm := @run_makeMap Try.prog
    clear hq e1
    have H := Lib.hid h; clear h
    go_enter Try.func30, Try.ntmps30
    go_wp2_with fail
    refine (Hp.out _ H.out).mono ?_
    rintro e w1 ⟨rfl, hb⟩
    have hR := H.out.up hb
    have hfr := fresh_row hR h1
    have hMm := Mapped.made w1
    go_wp2_with fail
    clear hmm
    refine (Hc.out _ _ (hR.up ((Below.refl _ w1).alloc (Nat.le_refl _) (.map #[] 0))) hfr hMm).mono ?_
    rintro e w2 ⟨rfl, hM2, hg⟩
    have hB2 := nx hb (below_map hg)
    clear hg hMm hb hR hfr
    go_wp2_with fail
    refine (Hw.out _ _ _ hM2).mono ?_
    rintro e w3 ⟨A', c', rfl, hI, hb⟩
    have hI2 := hI.mono hB2.size
    have hB3 := nx hB2 hb
    go_wp2_with fail
    go_ret2
    exact ⟨A', c', rfl, by rw [HE.out]; exact hI2, hB3⟩

set_option maxRecDepth 20000 in
set_option maxHeartbeats 4000000 in
theorem implTies_any (A : Option Addr) (n c : Nat) (P : Nat → Nat → Int) (w : World) (h : Row w A n P) (hn : n ≤ maxLen) :
    Calls Try.prog 36 #[.slice A n c] w fun e w' => e = .returned (.tuple #[.int .i64 (tW n P), .bool (isPool n P)]) ∧ Below w.heap.size w w' := by
  have Hp := Lib.hid (fun w h => implIsPool_any A n c P w h hn)
  cases hq : isPool n P
  · have e1 : tW n P = 0 := by unfold tW; rw [hq]; rfl
    rw [e1]
    rw [hq] at Hp
    have Hp := Lib.hid Hp
    clear hq e1
    go_enter Try.func36, Try.ntmps36
    go_wp2_with fail
    refine (Hp.out _ h).mono ?_
    rintro e w1 ⟨rfl, hb⟩
    go_wp2_with fail
    go_ret2
    exact ⟨rfl, hb⟩
  · have e1 : tW n P = (nos (gO P n) (all6 n) : Nat) := by unfold tW; rw [hq]; rfl
    rw [e1]
    rw [hq] at Hp
    have Hp := Lib.hid Hp
    obtain ⟨h1, h4, _⟩ := of_pool hq
    have Hc := Lib.hid (fun m w h hm hM => count_any A n c m 0 (fun _ => 0) P w h hm hq hM)
    have hmm := @run_makeMap Try.prog
    clear hq e1
    have H := Lib.hid h; clear h
    go_enter Try.func36, Try.ntmps36
    go_wp2_with fail
    refine (Hp.out _ H.out).mono ?_
    rintro e w1 ⟨rfl, hb⟩
    have hR := H.out.up hb
    have hfr := fresh_row hR h1
    have hMm := Mapped.made w1
    go_wp2_with fail
    clear hmm
    refine (Hc.out _ _ (hR.up ((Below.refl _ w1).alloc (Nat.le_refl _) (.map #[] 0))) hfr hMm).mono ?_
    rintro e w2 ⟨rfl, hM2, hg⟩
    have hB2 := nx hb (below_map hg)
    clear hg hMm hb hR hfr
    go_wp2_with fail
    go_ret2
    exact ⟨rfl, hB2⟩


end WayJ
end Go.Proofs.Ytiiknpebphpeiaa
