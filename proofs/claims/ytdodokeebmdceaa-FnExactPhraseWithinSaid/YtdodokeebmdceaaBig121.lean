/-
  Whole arrays of many numbers as one value.
-/
import Derived.Test.YtdodokeebmdceaaRows
import Derived.Test.YtdodokeebmdceaaArr
import Derived.Test.YtdodokeebmdceaaDieW
import Derived.Test.YtdodokeebmdceaaSortW
import Derived.Test.YtdodokeebmdceaaOpenD
import Derived.WalkKit
import Derived.WalkLawsBesides
import Derived.WalkSpells
import Derived.ProofKit
import Derived.OpenShut
import Derived.Deep.RegionWith
import Derived.Deep.WholeRow
import Derived.Deep.QuietTactic
import Derived.BigQuiet
namespace Go.Proofs.Ytdodokeebmdceaa
open Go.ChangeShapes Go.WideShapes Go.ChangeAt Go.RowKit
open Go.ChangeMaps (open_string shut_string)

namespace Big121
open Dice Arr DieW SortW

abbrev tv (f : Nat → Int) : Value := .agg (vals 121 f).toArray
theorem zero_cells : Try.zeroCells23 = (vals 121 fun _ => 0).toArray := by kernel_rfl
theorem size_run : (Try.prog.info? 23).map (·.size) = some 121 := by kernel_rfl
theorem fresh (w : World) {b : Nat} (hb : b = w.heap.size) : At (w.alloc (.cells Try.zeroCells23 23)) b 121 (fun _ => 0) := by
  subst hb
  rw [zero_cells]
  exact At.new w _ _ 121 _ fun k hk => by rw [List.getElem?_toArray]; exact vals_get hk
theorem ld {ops : Array Oper} {rest : List Oper} {o : Oper} {a : Act} {w : World} {Q : Exit → Act → World → Prop} (hgd : o.guard = none) (x : Operand) (ho : o.op = .load 23 x) {b : Nat} {f : Nat → Int} (hx : a.eval x = .pointer (some ⟨b, 0, none⟩)) (hA : At w b 121 f)
    (h : wpList Try.prog ops Q rest (a.put o.dst (tv f)) w) : wpList Try.prog ops Q (o :: rest) a w :=
  wpList_plain hgd fun _ hK => by
    unfold Oper.wp execOp
    simp only [ho, hx, Instr.loadAt, Instr.sureAddr, Sem.run_bind, Sem.run_pure, Result.andThen_ok, hA.loadVar Try.underlying23 size_run]
    exact hK _ _ h
theorem storeVar_at {w : World} {b : Nat} {f : Nat → Int} (hA : At w b 121 f) (g : Nat → Int) : (storeVar 23 ⟨b, 0, none⟩ (tv g)).run Try.prog w = .ok () (w.setCells b 0 (vals 121 g)) := by
  have := hA.store (P := Try.prog) g
  cases hq : Try.prog.info? 23 with
  | none => exact absurd size_run (by rw [hq]; simp)
  | some i =>
    have hs : i.size = 121 := by have := size_run; rw [hq] at this; simpa using this
    have hl : (vals 121 g).length = i.size := by rw [vals_len, hs]
    simpa [storeVar, sizeOf, typeInfo, hq, Value.cells, hl] using this
theorem st {ops : Array Oper} {rest : List Oper} {o : Oper} {a : Act} {w : World} {Q : Exit → Act → World → Prop} (hgd : o.guard = none) (x y : Operand) (ho : o.op = .store 23 x y) {b : Nat} {f g : Nat → Int} (hx : a.eval x = .pointer (some ⟨b, 0, none⟩)) (hy : a.eval y = tv g) (hA : At w b 121 f)
    (h : wpList Try.prog ops Q rest (a.put o.dst undef) (w.setCells b 0 (vals 121 g))) : wpList Try.prog ops Q (o :: rest) a w :=
  wpList_plain hgd fun _ hK => by
    unfold Oper.wp execOp
    simp only [ho, hx, hy, Instr.storeAt, Instr.sureAddr, Sem.run_bind, Sem.run_pure, Result.andThen_ok, storeVar_at hA g]
    exact hK _ _ h

theorem tv_new (w : World) (f : Nat → Int) : At (w.alloc (.cells (vals 121 f).toArray 23)) w.heap.size 121 f :=
  At.new w _ _ 121 f fun k hk => by rw [List.getElem?_toArray]; exact vals_get hk

theorem b0 {ops : Array Oper} {rest : List Oper} {o : Oper} {a : Act} {w : World} {Q : Exit → Act → World → Prop} (hgd : o.guard = none) (ho : o.op = .build 23 #[])
    (h : wpList Try.prog ops Q rest (a.put o.dst (tv fun _ => 0)) w) : wpList Try.prog ops Q (o :: rest) a w := by
  have e : Try.prog.built 23 [] = some (vals 121 fun _ => 0).toArray := by kernel_rfl
  refine wpList_build hgd 23 #[] ho ?_ ?_
  · simp only [List.map_toArray, List.map_nil, e, Option.isSome_some]
  · simp only [List.map_toArray, List.map_nil, e, Option.getD_some]
    exact h
theorem store_ex {w : World} {b : Nat} {f : Nat → Int} (h : At w b 121 f) (g : Nat → Int) : ∃ w2, (storeCells ⟨b, 0, none⟩ (vals 121 g)).run Try.prog w = .ok () w2 ∧ At w2 b 121 g ∧ (∀ B, B ≤ b → Below B w w2) ∧ ∀ p n f', p ≠ b → At w p n f' → At w2 p n f' :=
  ⟨w.setCells b 0 (vals 121 g), h.store g, h.stored g, fun _ hB => setCells_below hB _ _, fun _ _ _ hp hf => hf.keep hp _ _⟩

set_option maxRecDepth 100000 in
set_option maxHeartbeats 4000000 in
theorem eqT_any (f : Nat → Int) (w : World) :
    Calls Try.prog 18 #[tv f, tv f] w fun e w' => e = .returned (.bool true) ∧ Below w.heap.size w w' := by
  have h1 := (tv_new w f).past (.cells (vals 121 f).toArray 23)
  have h2 := tv_new (w.alloc (.cells (vals 121 f).toArray 23)) f
  rw [size_alloc] at h2
  have hB := na (na (n0 w) (.cells (vals 121 f).toArray 23)) (.cells (vals 121 f).toArray 23)
  go_enter Try.func18, Try.ntmps18
  go_wp2_with fail
  go_loopw [5] (fun i wr => ∃ k : Nat, k ≤ 121 ∧ i = .int .i64 k ∧ Below w.heap.size w wr ∧ At wr w.heap.size 121 f ∧ At wr (w.heap.size + 1) 121 f) (fun i _ => 121 - (intOf i).toNat)
  case atStart => exact ⟨0, by omega, rfl, hB, h1, h2⟩
  case round =>
    clear hB h1 h2
    obtain ⟨k, hk, rfl, hb, hd, hg⟩ := hrel
    by_cases hlt : k < 121
    · have c1 := hd.cell k hlt
      have c2 := hg.cell k hlt
      go_wp2_with fail
      go_region
      go_wp2_with fail
      go_roundw
      case rel => exact ⟨k + 1, by omega, by go_num, hb.drew, hd.drew, hg.drew⟩
      case measure => simp [intOf]; omega
    · obtain rfl : k = 121 := by omega
      go_wp2_with fail
      go_ret
      exact ⟨rfl, hb⟩



end Big121
end Go.Proofs.Ytdodokeebmdceaa
