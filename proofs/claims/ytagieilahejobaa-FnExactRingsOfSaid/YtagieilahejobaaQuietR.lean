/-
  A region that only reads, walked once: dice of a list.
-/
import Derived.Test.YtagieilahejobaaRows
import Derived.Test.YtagieilahejobaaQuietD
import Derived.Test.YtagieilahejobaaDieW
import Derived.Test.YtagieilahejobaaSortW
import Derived.Test.YtagieilahejobaaOpenD
import Derived.WalkKit
import Derived.WalkLawsBesides
import Derived.WalkSpells
import Derived.ProofKit
import Derived.OpenShut
import Derived.Deep.RegionWith
import Derived.Deep.QuietTactic
import Derived.BigQuiet
namespace Go.Proofs.Ytagieilahejobaa
open Go.ChangeShapes Go.WideShapes Go.ChangeAt Go.RowKit
open Go.ChangeMaps (open_string shut_string)

namespace QuietR
open Dice Arr OpenD DieW SortW QuietD

theorem size6' : (Try.prog.info? 22).map (·.size) = some 6 := by kernel_rfl
theorem load_off {w : World} {b o : Nat} {f : Nat → Int} (h : ∀ k, k < 6 → w.cell? ⟨b, o + k, none⟩ = some (.int .i64 (f k))) : (loadVar 22 ⟨b, o, none⟩).run Try.prog w = .ok (dv f) w := by
  have hl : (loadCells ⟨b, o, none⟩ 6).run Try.prog w = .ok (vals 6 f).toArray w :=
    run_loadCells (P := Try.prog) w ⟨b, o, none⟩ 6 (fun k => .int .i64 (f k)) (fun j hj => by rw [add_plain]; exact h j hj)
  cases hq : Try.prog.info? 22 with
  | none => have := size6'; simp [hq] at this
  | some i =>
    have hs : i.size = 6 := by have := size6'; simpa [hq] using this
    have hagg : (isAgg 22).run Try.prog w = .ok true w := by
      unfold isAgg
      rw [Sem.run_bind, run_underlying Try.underlying22 w]
      simp_all
    simp [Go.loadVar, Sem.run_bind, hagg, sizeOf, typeInfo, hq, hs, hl]
    rfl
section
variable {C : World → Prop} {K : Act → Prop} {a : Act} {o : Oper}
/-- A die of a list read, in every world of the class. -/
theorem quiet_ldo (x : Operand) (ho : o.op = .load 22 x) {b off : Nat} {f : Nat → Int} (hx : a.eval x = .pointer (some ⟨b, off, none⟩)) (hC : ∀ w, C w → ∀ k, k < 6 → w.cell? ⟨b, off + k, none⟩ = some (.int .i64 (f k)))
    (hk : K (a.put o.dst (dv f))) : o.quiet Try.prog a C K :=
  ⟨dv f, fun w hw => by
    unfold Oper.quietAt execOp
    simp only [ho, hx, Instr.loadAt, Instr.sureAddr, Sem.run_bind, Sem.run_pure, Result.andThen_ok, load_off (hC w hw)]
    exact ⟨rfl, rfl⟩, hk⟩
end
/-- A die of a list, in a later world. -/
theorem at_row {w w' : World} {B bk o i : Nat} {f : Nat → Int} (hc : ∀ k, k < 6 → w.cell? ⟨bk, o + (i * 6 + k), none⟩ = some (.int .i64 (f k))) (hl : bk < B) (hB : Below B w w') : ∀ k, k < 6 → w'.cell? ⟨bk, o + i * 6 + k, none⟩ = some (.int .i64 (f k)) := fun k hk => by
  rw [Nat.add_assoc]
  exact (hB.cell (p := ⟨bk, o + (i * 6 + k), none⟩) hl).trans (hc k hk)


end QuietR
end Go.Proofs.Ytagieilahejobaa
