/-
  OrderOf of the model.
-/
import Derived.Test.YtiiknpebphpeiaaRows
import Derived.Test.YtiiknpebphpeiaaArr
import Derived.Test.YtiiknpebphpeiaaDieW
import Derived.Test.YtiiknpebphpeiaaSortW
import Derived.Test.YtiiknpebphpeiaaDicesW
import Derived.Test.YtiiknpebphpeiaaPoolW
import Derived.Test.YtiiknpebphpeiaaAll6
import Derived.Test.YtiiknpebphpeiaaIntsW
import Derived.Test.YtiiknpebphpeiaaRollN
import Derived.Test.YtiiknpebphpeiaaRollS
import Derived.Test.YtiiknpebphpeiaaFour
import Derived.Test.YtiiknpebphpeiaaOrdM
import Derived.Test.YtiiknpebphpeiaaOrdT
import Derived.Test.YtiiknpebphpeiaaOrdW
import Derived.Test.YtiiknpebphpeiaaOpenD
import Derived.WalkKit
import Derived.WalkLawsBesides
import Derived.WalkSpells
import Derived.ProofKit
import Derived.OpenShut
import Derived.Deep.RegionWith
import Derived.Deep.QuietTactic
import Derived.BigQuiet
namespace Go.Proofs.Ytiiknpebphpeiaa
open Go.ChangeShapes Go.WideShapes Go.ChangeAt Go.RowKit
open Go.ChangeMaps (open_string shut_string)

namespace OrdO
open Dice Arr OpenD DieW SortW DicesW PoolW All6 IntsW RollW Four OrdM OrdT OrdW


/-- What OrderOf answers. -/
def okO (n : Nat) (P : Nat → Nat → Int) (k : Int) : Bool := okR n P k && okb (rollF P k.toNat n) n
def ordO (n : Nat) (P : Nat → Nat → Int) (k : Int) : Nat → Int := if okR n P k then ordF (rollF P k.toNat n) n else fun _ => 0
theorem okO_no {n : Nat} {P : Nat → Nat → Int} {k : Int} (h : okR n P k = false) : okO n P k = false ∧ ordO n P k = fun _ => 0 := by
  unfold okO ordO
  rw [h]
  exact ⟨rfl, rfl⟩
theorem okO_yes {n : Nat} {P : Nat → Nat → Int} {k : Int} (h : okR n P k = true) : okO n P k = okb (rollF P k.toNat n) n ∧ ordO n P k = ordF (rollF P k.toNat n) n := by
  unfold okO ordO
  rw [h]
  exact ⟨rfl, rfl⟩
theorem okR_pool {n : Nat} {P : Nat → Nat → Int} {k : Int} (h : okR n P k = true) : 1 ≤ n ∧ n ≤ 4 := by
  unfold okR at h
  rw [Bool.and_eq_true] at h
  exact ⟨(of_pool h.1).1, (of_pool h.1).2.1⟩

set_option maxRecDepth 20000 in
set_option maxHeartbeats 4000000 in
theorem specOrderOf_any (A : Option Addr) (n c : Nat) (k : Int) (P : Nat → Nat → Int) (w : World) (h : Row w A n P) (hn : n ≤ maxLen) :
    Calls Try.prog 19 #[.slice A n c, .int .i64 k] w fun e w' => e = .returned (.tuple #[v4 (ordO n P k), .bool (okO n P k)]) ∧ Below w.heap.size w w' := by
  have Hp := Lib.hid (fun w h => specRoll_any A n c k P w h hn)
  have hR0 := At.new4 w (fun _ => 0) 26 rfl
  have hB0 := na (n0 w) (fourO (fun _ => 0) 26)
  have H0 := h.up hB0
  cases hq : okR n P k
  · obtain ⟨e1, e2⟩ := okO_no hq
    rw [e1, e2]
    have hl : lenR n P k = 0 := by unfold lenR; rw [hq]; rfl
    rw [hq, hl] at Hp
    clear e1 e2 hl hq h
    have Hp := Lib.hid Hp
    go_enter Try.func19, Try.ntmps19
    go_wp2_with fail
    refine (Hp.out _ H0).mono ?_
    rintro e w1 ⟨A', c', rfl, hI, hb⟩
    have hR := hR0.up hb
    have hB := nx hB0 hb
    clear hI hb H0
    obtain ⟨c0, c1, c2, c3⟩ := At.four hR
    obtain ⟨z0, z1, z2, z3⟩ := At.freefour hR
    go_wp2_with fail
    have hX := At.s4 hR (fun _ => 0)
    have hY := below_s4 hB (Nat.le_refl _) (fun _ => 0)
    refine ret_cell_tmpS (b := w.heap.size) (n := 4) (f := fun _ => 0) (x := .bool false) Try.results19 rfl rfl under size4 hX rfl ?_
    exact ⟨rfl, hY⟩
  obtain ⟨e1, e2⟩ := okO_yes hq
  obtain ⟨hn1, hn4⟩ := okR_pool hq
  rw [e1, e2]
  have hl : lenR n P k = n := by unfold lenR; rw [hq]; rfl
  rw [hq, hl] at Hp
  clear e1 e2 hl hq h
  have Hp := Lib.hid Hp
  generalize rollF P k.toNat n = f at *
  have Hs := Lib.hid (fun g c w h => specOrd_any g n c f w h hn4)
  go_enter Try.func19, Try.ntmps19
  go_wp2_with fail
  refine (Hp.out _ H0).mono ?_
  rintro e w1 ⟨A', c', rfl, hI, hb⟩
  obtain ⟨g, rfl, _, hL⟩ := hI.at_ (show 0 < n by omega)
  have hR := hR0.up hb
  have hB := nx hB0 hb
  clear hI hb H0
  go_wp2_with fail
  refine (Hs.out _ _ _ hL).mono ?_
  rintro e w2 ⟨rfl, hb⟩
  have hR := hR.up hb
  have hB := nx hB hb
  obtain ⟨F, hF⟩ : ∃ F, F = ordF f n := ⟨_, rfl⟩
  rw [← hF]
  obtain ⟨b, hb'⟩ : ∃ b, b = okb f n := ⟨_, rfl⟩
  rw [← hb']
  have HF := Lib.hid hF; clear hF
  have Hb' := Lib.hid hb'; clear hb'
  clear hb hL hR0 hB0
  obtain ⟨c0, c1, c2, c3⟩ := At.four hR
  obtain ⟨z0, z1, z2, z3⟩ := At.freefour hR
  go_wp2_with fail
  have hX := At.s4 hR F
  have hY := below_s4 hB (Nat.le_refl _) F
  refine ret_cell_tmpS (b := w.heap.size) (n := 4) (f := F) (x := .bool b) Try.results19 rfl rfl under size4 hX rfl ?_
  exact ⟨by rw [HF.out, Hb'.out]; rfl, hY⟩


end OrdO
end Go.Proofs.Ytiiknpebphpeiaa
