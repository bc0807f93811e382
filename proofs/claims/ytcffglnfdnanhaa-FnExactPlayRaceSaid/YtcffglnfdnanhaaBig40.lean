/-
  Whole arrays of many numbers as one value.
-/
import Derived.Test.YtcffglnfdnanhaaRows
import Derived.Test.YtcffglnfdnanhaaArr
import Derived.Test.YtcffglnfdnanhaaDieW
import Derived.Test.YtcffglnfdnanhaaSortW
import Derived.Test.YtcffglnfdnanhaaOpenD
import Derived.WalkKit
import Derived.WalkLawsBesides
import Derived.WalkSpells
import Derived.ProofKit
import Derived.OpenShut
import Derived.Deep.RegionWith
import Derived.Deep.WholeRow
import Derived.Deep.QuietTactic
import Derived.BigQuiet
namespace Go.Proofs.Ytcffglnfdnanhaa
open Go.ChangeShapes Go.WideShapes Go.ChangeAt Go.RowKit
open Go.ChangeMaps (open_string shut_string)

namespace Big40
open Dice Arr DieW SortW

abbrev tv (f : Nat → Int) : Value := .agg (vals 40 f).toArray
theorem zero_cells : #[.int .i64 0, .int .i64 0, .int .i64 0, .int .i64 0, .int .i64 0, .int .i64 0, .int .i64 0, .int .i64 0, .int .i64 0, .int .i64 0, .int .i64 0, .int .i64 0, .int .i64 0, .int .i64 0, .int .i64 0, .int .i64 0, .int .i64 0, .int .i64 0, .int .i64 0, .int .i64 0, .int .i64 0, .int .i64 0, .int .i64 0, .int .i64 0, .int .i64 0, .int .i64 0, .int .i64 0, .int .i64 0, .int .i64 0, .int .i64 0, .int .i64 0, .int .i64 0, .int .i64 0, .int .i64 0, .int .i64 0, .int .i64 0, .int .i64 0, .int .i64 0, .int .i64 0, .int .i64 0] = (vals 40 fun _ => 0).toArray := by kernel_rfl
theorem size_run : (Try.prog.info? 68).map (·.size) = some 40 := by kernel_rfl
theorem fresh (w : World) {b : Nat} (hb : b = w.heap.size) : At (w.alloc (.cells #[.int .i64 0, .int .i64 0, .int .i64 0, .int .i64 0, .int .i64 0, .int .i64 0, .int .i64 0, .int .i64 0, .int .i64 0, .int .i64 0, .int .i64 0, .int .i64 0, .int .i64 0, .int .i64 0, .int .i64 0, .int .i64 0, .int .i64 0, .int .i64 0, .int .i64 0, .int .i64 0, .int .i64 0, .int .i64 0, .int .i64 0, .int .i64 0, .int .i64 0, .int .i64 0, .int .i64 0, .int .i64 0, .int .i64 0, .int .i64 0, .int .i64 0, .int .i64 0, .int .i64 0, .int .i64 0, .int .i64 0, .int .i64 0, .int .i64 0, .int .i64 0, .int .i64 0, .int .i64 0] 68)) b 40 (fun _ => 0) := by
  subst hb
  rw [zero_cells]
  exact At.new w _ _ 40 _ fun k hk => by rw [List.getElem?_toArray]; exact vals_get hk
theorem ld {ops : Array Oper} {rest : List Oper} {o : Oper} {a : Act} {w : World} {Q : Exit → Act → World → Prop} (hgd : o.guard = none) (x : Operand) (ho : o.op = .load 68 x) {b : Nat} {f : Nat → Int} (hx : a.eval x = .pointer (some ⟨b, 0, none⟩)) (hA : At w b 40 f)
    (h : wpList Try.prog ops Q rest (a.put o.dst (tv f)) w) : wpList Try.prog ops Q (o :: rest) a w :=
  wpList_plain hgd fun _ hK => by
    unfold Oper.wp execOp
    simp only [ho, hx, Instr.loadAt, Instr.sureAddr, Sem.run_bind, Sem.run_pure, Result.andThen_ok, hA.loadVar Try.underlying68 size_run]
    exact hK _ _ h
theorem storeVar_at {w : World} {b : Nat} {f : Nat → Int} (hA : At w b 40 f) (g : Nat → Int) : (storeVar 68 ⟨b, 0, none⟩ (tv g)).run Try.prog w = .ok () (w.setCells b 0 (vals 40 g)) := by
  have := hA.store (P := Try.prog) g
  cases hq : Try.prog.info? 68 with
  | none => exact absurd size_run (by rw [hq]; simp)
  | some i =>
    have hs : i.size = 40 := by have := size_run; rw [hq] at this; simpa using this
    have hl : (vals 40 g).length = i.size := by rw [vals_len, hs]
    simpa [storeVar, sizeOf, typeInfo, hq, Value.cells, hl] using this
theorem st {ops : Array Oper} {rest : List Oper} {o : Oper} {a : Act} {w : World} {Q : Exit → Act → World → Prop} (hgd : o.guard = none) (x y : Operand) (ho : o.op = .store 68 x y) {b : Nat} {f g : Nat → Int} (hx : a.eval x = .pointer (some ⟨b, 0, none⟩)) (hy : a.eval y = tv g) (hA : At w b 40 f)
    (h : wpList Try.prog ops Q rest (a.put o.dst undef) (w.setCells b 0 (vals 40 g))) : wpList Try.prog ops Q (o :: rest) a w :=
  wpList_plain hgd fun _ hK => by
    unfold Oper.wp execOp
    simp only [ho, hx, hy, Instr.storeAt, Instr.sureAddr, Sem.run_bind, Sem.run_pure, Result.andThen_ok, storeVar_at hA g]
    exact hK _ _ h

theorem tv_new (w : World) (f : Nat → Int) : At (w.alloc (.cells (vals 40 f).toArray 68)) w.heap.size 40 f :=
  At.new w _ _ 40 f fun k hk => by rw [List.getElem?_toArray]; exact vals_get hk

theorem b0 {ops : Array Oper} {rest : List Oper} {o : Oper} {a : Act} {w : World} {Q : Exit → Act → World → Prop} (hgd : o.guard = none) (ho : o.op = .build 68 #[])
    (h : wpList Try.prog ops Q rest (a.put o.dst (tv fun _ => 0)) w) : wpList Try.prog ops Q (o :: rest) a w := by
  have e : Try.prog.built 68 [] = some (vals 40 fun _ => 0).toArray := by kernel_rfl
  refine wpList_build hgd 68 #[] ho ?_ ?_
  · simp only [List.map_toArray, List.map_nil, e, Option.isSome_some]
  · simp only [List.map_toArray, List.map_nil, e, Option.getD_some]
    exact h
theorem b1 {ops : Array Oper} {rest : List Oper} {o : Oper} {a : Act} {w : World} {Q : Exit → Act → World → Prop} (hgd : o.guard = none) (s : Operand) (ho : o.op = .build 68 #[(0, s)]) (hs : a.eval s = .int .i64 60466176)
    (h : wpList Try.prog ops Q rest (a.put o.dst (tv fun k => if k = 0 then 60466176 else 0)) w) : wpList Try.prog ops Q (o :: rest) a w := by
  have e : Try.prog.built 68 [(0, .int .i64 60466176)] = some (vals 40 fun k => if k = 0 then 60466176 else 0).toArray := by kernel_rfl
  refine wpList_build hgd 68 #[(0, s)] ho ?_ ?_
  · simp only [List.map_toArray, List.map_cons, List.map_nil, hs, e, Option.isSome_some]
  · simp only [List.map_toArray, List.map_cons, List.map_nil, hs, e, Option.getD_some]
    exact h
theorem store_ex {w : World} {b : Nat} {f : Nat → Int} (h : At w b 40 f) (g : Nat → Int) : ∃ w2, (storeCells ⟨b, 0, none⟩ (vals 40 g)).run Try.prog w = .ok () w2 ∧ At w2 b 40 g ∧ (∀ B, B ≤ b → Below B w w2) ∧ ∀ p n f', p ≠ b → At w p n f' → At w2 p n f' :=
  ⟨w.setCells b 0 (vals 40 g), h.store g, h.stored g, fun _ hB => setCells_below hB _ _, fun _ _ _ hp hf => hf.keep hp _ _⟩

end Big40
end Go.Proofs.Ytcffglnfdnanhaa
