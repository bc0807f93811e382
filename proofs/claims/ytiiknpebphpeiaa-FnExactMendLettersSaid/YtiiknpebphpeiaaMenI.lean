/-
  unevenness of the program.
-/
import Derived.Test.YtiiknpebphpeiaaRows
import Derived.Test.YtiiknpebphpeiaaArr
import Derived.Test.YtiiknpebphpeiaaDieW
import Derived.Test.YtiiknpebphpeiaaSortW
import Derived.Test.YtiiknpebphpeiaaFour
import Derived.Test.YtiiknpebphpeiaaOrdM
import Derived.Test.YtiiknpebphpeiaaOrdK
import Derived.Test.YtiiknpebphpeiaaOrdW
import Derived.Test.YtiiknpebphpeiaaDicesW
import Derived.Test.YtiiknpebphpeiaaPoolW
import Derived.Test.YtiiknpebphpeiaaOwnL
import Derived.Test.YtiiknpebphpeiaaOpenI
import Derived.Test.YtiiknpebphpeiaaLtrM
import Derived.Test.YtiiknpebphpeiaaIntsW
import Derived.Test.YtiiknpebphpeiaaIntL
import Derived.Test.YtiiknpebphpeiaaIntsE
import Derived.Test.YtiiknpebphpeiaaLtrS
import Derived.Test.YtiiknpebphpeiaaLtrP
import Derived.Test.YtiiknpebphpeiaaLtrI
import Derived.Test.YtiiknpebphpeiaaLtrK
import Derived.Test.YtiiknpebphpeiaaLtrO
import Derived.Test.YtiiknpebphpeiaaLtrW
import Derived.Test.YtiiknpebphpeiaaShelfCR
import Derived.Test.YtiiknpebphpeiaaLevW
import Derived.Test.YtiiknpebphpeiaaTurnW
import Derived.Test.YtiiknpebphpeiaaAll6
import Derived.Test.YtiiknpebphpeiaaRollN
import Derived.Test.YtiiknpebphpeiaaRollS
import Derived.Test.YtiiknpebphpeiaaOrdT
import Derived.Test.YtiiknpebphpeiaaOrdO
import Derived.Test.YtiiknpebphpeiaaOrdI
import Derived.Test.YtiiknpebphpeiaaOrdS
import Derived.Test.YtiiknpebphpeiaaAnyR
import Derived.Test.YtiiknpebphpeiaaMapO
import Derived.Test.YtiiknpebphpeiaaShelfMax
import Derived.Test.YtiiknpebphpeiaaOrdN
import Derived.Test.YtiiknpebphpeiaaOrdL
import Derived.Test.YtiiknpebphpeiaaCntI
import Derived.Test.YtiiknpebphpeiaaWayI
import Derived.Test.YtiiknpebphpeiaaWayJ
import Derived.Test.YtiiknpebphpeiaaWayS
import Derived.Test.YtiiknpebphpeiaaWayT
import Derived.Test.YtiiknpebphpeiaaMenM
import Derived.Test.YtiiknpebphpeiaaShelfMax
import Derived.Test.YtiiknpebphpeiaaOpenD
import Derived.WalkKit
import Derived.WalkLawsBesides
import Derived.WalkSpells
import Derived.ProofKit
import Derived.OpenShut
import Derived.Deep.RegionWith
import Derived.Deep.QuietTactic
import Derived.BigQuiet
namespace Go.Proofs.Ytiiknpebphpeiaa
open Go.ChangeShapes Go.WideShapes Go.ChangeAt Go.RowKit
open Go.ChangeMaps (open_string shut_string)

namespace MenI
open Dice Arr OpenD DieW SortW DicesW PoolW All6 IntsW RollW Four OwnL OrdM OrdT OrdW OrdO OrdI OrdK OrdS AnyR MapO OrdN OrdL CntI WayI WayJ WayS WayT OpenG LtrM LtrS LtrP LtrI LtrK LtrO LevW LtrW TurnW MenM LtrK

theorem grown_trans {w w' w'' : World} {row : Option Nat} (h : w.grownBy w' row) (h' : w'.grownBy w'' row) : w.grownBy w'' row :=
  ⟨h'.os.trans h.os, h'.tape.trans h.tape, h'.output.trans h.output, Nat.le_trans h.size h'.size, fun k hk hne => (h'.block k (Nat.lt_of_lt_of_le hk h.size) hne).trans (h.block k hk hne)⟩
theorem grown_ofB {w w' : World} {B : Nat} (h : Below B w w') (hB : w.heap.size ≤ B) (row : Option Nat) : w.grownBy w' row := ⟨h.os, h.tape, h.output, h.size, fun k hk _ => h.block k (by omega)⟩

theorem maxmin_any (b n c : Nat) (F : Nat → Int) (hn : 1 ≤ n) (h1000 : n ≤ 1000) : (∀ w, At w b n F → Calls Try.prog 100 #[.slice (some ⟨b, 0, none⟩) n c] w fun e w' => e = .returned (.int .i64 (mxs F n)) ∧ w' = w) ∧ (∀ w, At w b n F → Calls Try.prog 99 #[.slice (some ⟨b, 0, none⟩) n c] w fun e w' => e = .returned (.int .i64 (mns F n)) ∧ w' = w) := by
  obtain ⟨e1, e2⟩ := mxs_of F n (n - 1) (by omega)
  rw [show n - 1 + 1 = n by omega] at e1 e2
  rw [← e1, ← e2]
  exact ⟨fun w hA => Try.slices_Max_int b 0 n c (zl F n) w (by omega) (by rw [zl_len]; omega) (by omega) (fun j hj => by rw [zl_len] at hj; rw [zl_get hj, Nat.zero_add]; exact hA.cell j hj),
    fun w hA => Try.slices_Min_int b 0 n c (zl F n) w (by omega) (by rw [zl_len]; omega) (by omega) (fun j hj => by rw [zl_len] at hj; rw [zl_get hj, Nat.zero_add]; exact hA.cell j hj)⟩

set_option maxRecDepth 20000 in
set_option maxHeartbeats 4000000 in
theorem unev_any (M k0 : Nat) (F0 : Q4 → Nat) (g m c : Nat) (f : Nat → Int) (w : World) (hM : Mapped w M k0 F0) (h : At w g (6 * m) f) (hk : Ok f (6 * m)) :
    Calls Try.prog 92 #[.map (some M), .slice (some ⟨g, 0, none⟩) (6 * m) c] w fun e w' => e = .returned (.int .i64 (spW (6 * m) f)) ∧ (∃ k F, Mapped w' M k F) ∧ w.grownBy w' (some M) := by
  obtain ⟨m', hm, h1, h4, _⟩ := id hk
  obtain rfl : m = m' := by omega
  have Hpl := Lib.hid (lq_pool hk)
  have Hp := Lib.hid (fun w h => implFL_yes (some ⟨g, 0, none⟩) m c f hk w h)
  have Hc := Lib.hid (fun g w h hm hM => count_any (some ⟨g, 0, none⟩) m m M k0 F0 (lq f (6 * m)) w h hm Hpl.out hM)
  have Hw := Lib.hid (fun k w hM => inOrder_any M k m (cnt (gO (lq f (6 * m)) m) (all6 m)) w hM h1 h4 (cnt_small (lq f (6 * m)) h4))
  have hl24 : (ordL m).length ≤ 24 := (ordI_len h1 h4 m (Nat.le_refl _)).1
  have hl1 : 1 ≤ (ordL m).length := (ordI_len h1 h4 m (Nat.le_refl _)).2
  have hin := fL_in f h4
  have HS : Hid (spW (6 * m) f = mxs (fL (6 * m) f) (ordL m).length - mns (fL (6 * m) f) (ordL m).length) := by show _ = _; unfold spW; rw [show 6 * m / 6 = m by omega]
  rw [← show fL (6 * m) f = wf (cnt (gO (lq f (6 * m)) m) (all6 m)) (ordL m) from fL_yes m f] at Hw
  have hb4 := mxs_in hin (ordL m).length
  have Hxn := Lib.hid (fun b c => maxmin_any b (ordL m).length c (fL (6 * m) f) hl1 (by omega))
  rw [HS.out]
  clear hk hm HS Hpl hin
  generalize fL (6 * m) f = G at *
  generalize (ordL m).length = q at *
  obtain ⟨hb1, hb2⟩ := hb4
  generalize hx : mxs G q = x at *
  generalize hy : mns G q = y at *
  clear hx hy
  have H := Lib.hid h; clear h
  have HM := Lib.hid hM; clear hM
  have hMl := HM.out.lt
  go_enter Try.func92, Try.ntmps92
  go_wp2_with fail
  refine (Hp.out _ (rowI_of H.out)).mono ?_
  rintro e w3 ⟨g3, rfl, hg3, hA3, hb3⟩
  have hgr := grown_ofB hb3 (Nat.le_refl _) (some M)
  have hM3 := HM.out.up hb3
  go_wp2_with fail
  refine (Hc.out _ _ (lq_row hA3) (fun b o e => by injection e with e; injection e with e; omega) hM3).mono ?_
  rintro e w4 ⟨rfl, hM4, hg4⟩
  have hgr4 := grown_trans hgr hg4
  clear hA3 hb3 hgr hM3 hg4
  go_wp2_with fail
  refine (Hw.out _ _ hM4).mono ?_
  rintro e w5 ⟨A5, c5, rfl, hI5, hb5⟩
  obtain ⟨b, rfl, hbb, hA5⟩ := hI5.at_ (show 0 < q by omega)
  have hM5 := hM4.up hb5
  have hgr5 := grown_trans hgr4 (grown_ofB hb5 (Nat.le_refl _) (some M))
  clear hgr4 hM4 hb5 hI5
  go_wp2_with fail
  refine ((Hxn.out _ _).1 _ hA5).mono ?_
  rintro e w6 ⟨rfl, hw⟩
  have hw := hw.symm
  subst hw
  go_wp2_with fail
  refine ((Hxn.out _ _).2 _ hA5).mono ?_
  rintro e w6 ⟨rfl, hw⟩
  have hw := hw.symm
  subst hw
  go_wp2_with fail
  go_ret
  exact ⟨rfl, ⟨_, _, hM5⟩, hgr5⟩
theorem unev_n (M k0 : Nat) (F0 : Q4 → Nat) (g n c : Nat) (f : Nat → Int) (w : World) (hM : Mapped w M k0 F0) (h : At w g n f) (hk : Ok f n) :
    Calls Try.prog 92 #[.map (some M), .slice (some ⟨g, 0, none⟩) n c] w fun e w' => e = .returned (.int .i64 (spW n f)) ∧ (∃ k F, Mapped w' M k F) ∧ w.grownBy w' (some M) := by
  obtain ⟨m, rfl, _⟩ := id hk
  exact unev_any M k0 F0 g m c f w hM h hk


end MenI
end Go.Proofs.Ytiiknpebphpeiaa
