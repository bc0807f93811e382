/-
  Orders as values of four cells.
-/
import Derived.Test.YtiiknpebphpeiaaRows
import Derived.Test.YtiiknpebphpeiaaArr
import Derived.Test.YtiiknpebphpeiaaDieW
import Derived.Test.YtiiknpebphpeiaaSortW
import Derived.Test.YtiiknpebphpeiaaFour
import Derived.Test.YtiiknpebphpeiaaOrdM
import Derived.Test.YtiiknpebphpeiaaOpenD
import Derived.WalkKit
import Derived.WalkLawsBesides
import Derived.WalkSpells
import Derived.ProofKit
import Derived.OpenShut
import Derived.Deep.RegionWith
import Derived.Deep.QuietTactic
import Derived.BigQuiet
namespace Go.Proofs.Ytiiknpebphpeiaa
open Go.ChangeShapes Go.WideShapes Go.ChangeAt Go.RowKit
open Go.ChangeMaps (open_string shut_string)

namespace OrdT
open Dice Arr DieW SortW Four OrdM


abbrev ordT : TypeId := 26
theorem under : Try.prog.underlying 26 = some (.struct (Try.prog.fieldsOf 26)) := by
  unfold Program.fieldsOf
  rw [Try.underlying26]
theorem size4 : (Try.prog.info? 26).map (·.size) = some 4 := by kernel_rfl
/-- Loads of a struct. -/
theorem At.loadVarS {P : Program} {w : World} {b n : Nat} {f : Nat → Int} (h : At w b n f) {t : TypeId} {fs : Array Field} (hu : P.underlying t = some (.struct fs)) (hi : (P.info? t).map (·.size) = some n) :
    (loadVar t ⟨b, 0, none⟩).run P w = .ok (.agg (vals n f).toArray) w := by
  have hl : (loadCells ⟨b, 0, none⟩ n).run P w = .ok (vals n f).toArray w := h.load
  cases hq : P.info? t with
  | none => simp [hq] at hi
  | some i =>
    have hs : i.size = n := by simpa [hq] using hi
    have hagg : (isAgg t).run P w = .ok true w := by
      unfold isAgg
      rw [Sem.run_bind, run_underlying hu w]
      simp_all
    simp [Go.loadVar, Sem.run_bind, hagg, sizeOf, typeInfo, hq, hs, hl]
theorem ret_cellS {P : Program} {fn : Func} {R : Ending → World → Prop} {a : Act} {w : World} {p : Tmp} {ty : TypeId} {fs : Array Field} {b n : Nat} {f : Nat → Int} (h : fn.results = #[.cell p ty]) (hp : a.tmps.getD p undef = .pointer (some ⟨b, 0, none⟩))
    (hu : P.underlying ty = some (.struct fs)) (hi : (P.info? ty).map (·.size) = some n) (hA : At w b n f) (hd : a.defers = []) (hR : R (.returned (.agg (vals n f).toArray)) w) : bodyPost P fn R .ret a w := by
  refine bodyPost_ret (v := .agg (vals n f).toArray) ?_ hd hR
  have hp' : a.tmps[p]?.getD undef = .pointer (some ⟨b, 0, none⟩) := by simpa using hp
  simp only [results, h]
  simp [hp', asAddr, At.loadVarS hA hu hi]
theorem ret_cell_tmpS {P : Program} {fn : Func} {R : Ending → World → Prop} {a : Act} {w : World} {p u : Tmp} {ty : TypeId} {fs : Array Field} {b n : Nat} {f : Nat → Int} {x : Value} (h : fn.results = #[.cell p ty, .tmp u]) (hp : a.tmps.getD p undef = .pointer (some ⟨b, 0, none⟩)) (hx : a.tmps.getD u undef = x)
    (hu : P.underlying ty = some (.struct fs)) (hi : (P.info? ty).map (·.size) = some n) (hA : At w b n f) (hd : a.defers = []) (hR : R (.returned (.tuple #[.agg (vals n f).toArray, x])) w) : bodyPost P fn R .ret a w := by
  refine bodyPost_ret (v := .tuple #[.agg (vals n f).toArray, x]) ?_ hd hR
  rw [results_cell_tmp h, hp, hx]
  simp [Result.andThen, asAddr, At.loadVarS hA hu hi]
/-- Four cells written, one by one. -/
theorem At.s4 {w : World} {b : Nat} {g : Nat → Int} (h : At w b 4 g) (f : Nat → Int) : At ((((w.setCell ⟨b, 0, none⟩ (.int .i64 (f 0))).setCell ⟨b, 1, none⟩ (.int .i64 (f 1))).setCell ⟨b, 2, none⟩ (.int .i64 (f 2))).setCell ⟨b, 3, none⟩ (.int .i64 (f 3))) b 4 f :=
  ((((h.set (i := 0) (by omega) (f 0)).set (i := 1) (by omega) (f 1)).set (i := 2) (by omega) (f 2)).set (i := 3) (by omega) (f 3)).congr fun k hk => by
    obtain rfl | rfl | rfl | rfl : k = 0 ∨ k = 1 ∨ k = 2 ∨ k = 3 := by omega
    all_goals rfl
theorem below_s4 {B b : Nat} {a w : World} (h : Below B a w) (hB : B ≤ b) (f : Nat → Int) : Below B a ((((w.setCell ⟨b, 0, none⟩ (.int .i64 (f 0))).setCell ⟨b, 1, none⟩ (.int .i64 (f 1))).setCell ⟨b, 2, none⟩ (.int .i64 (f 2))).setCell ⟨b, 3, none⟩ (.int .i64 (f 3))) :=
  (((h.setCell (p := ⟨b, 0, none⟩) hB _).setCell (p := ⟨b, 1, none⟩) hB _).setCell (p := ⟨b, 2, none⟩) hB _).setCell (p := ⟨b, 3, none⟩) hB _
set_option maxHeartbeats 1000000 in
theorem empty_any (w : World) : Calls Try.prog 65 #[] w fun e w' => e = .returned (v4 fun _ => -1) ∧ Below w.heap.size w w' := by
  have hS := At.new4 w (fun _ => -1) 26 rfl
  have hB := na (n0 w) (fourO (fun _ => -1) 26)
  go_enter Try.func65, Try.ntmps65
  go_wp2_with fail
  refine ret_cellS (b := w.heap.size) (n := 4) (f := fun _ => -1) Try.results65 rfl under size4 hS rfl ⟨rfl, hB⟩


end OrdT
end Go.Proofs.Ytiiknpebphpeiaa
