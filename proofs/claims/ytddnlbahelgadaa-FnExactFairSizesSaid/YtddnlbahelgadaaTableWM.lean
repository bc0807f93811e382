/-
  Contracts of the functions that make a table of sums.
-/
import Derived.Test.YtddnlbahelgadaaRows
import Derived.Test.YtddnlbahelgadaaTableM
import Derived.Test.YtddnlbahelgadaaSumsM
import Derived.Test.YtddnlbahelgadaaPoolW
import Derived.Test.YtddnlbahelgadaaSortW
import Derived.Test.YtddnlbahelgadaaDicesW
import Derived.Test.YtddnlbahelgadaaOpenD
import Derived.WalkKit
import Derived.WalkLawsBesides
import Derived.WalkSpells
import Derived.ProofKit
import Derived.OpenShut
import Derived.Deep.RegionWith
import Derived.Deep.WholeRow
import Derived.Deep.QuietTactic
import Derived.BigQuiet
namespace Go.Proofs.Ytddnlbahelgadaa
open Go.ChangeShapes Go.WideShapes Go.ChangeAt Go.RowKit
open Go.ChangeMaps (open_string shut_string)

namespace TableW
open Dice Arr OpenD DieW SortW DicesW PoolW SumsW Table

abbrev tv (f : Nat → Int) : Value := .agg (vals 121 f).toArray
theorem zero_cells : Try.zeroCells70 = (vals 121 fun _ => 0).toArray := by kernel_rfl
theorem size_run : (Try.prog.info? 70).map (·.size) = some 121 := by kernel_rfl
theorem fresh (w : World) {b : Nat} (hb : b = w.heap.size) : At (w.alloc (.cells Try.zeroCells70 70)) b 121 (fun _ => 0) := by
  subst hb
  rw [zero_cells]
  exact At.new w _ _ 121 _ fun k hk => by rw [List.getElem?_toArray]; exact vals_get hk
theorem ld {ops : Array Oper} {rest : List Oper} {o : Oper} {a : Act} {w : World} {Q : Exit → Act → World → Prop} (hgd : o.guard = none) (x : Operand) (ho : o.op = .load 70 x) {b : Nat} {f : Nat → Int} (hx : a.eval x = .pointer (some ⟨b, 0, none⟩)) (hA : At w b 121 f)
    (h : wpList Try.prog ops Q rest (a.put o.dst (tv f)) w) : wpList Try.prog ops Q (o :: rest) a w :=
  wpList_plain hgd fun _ hK => by
    unfold Oper.wp execOp
    simp only [ho, hx, Instr.loadAt, Instr.sureAddr, Sem.run_bind, Sem.run_pure, Result.andThen_ok, hA.loadVar Try.underlying70 size_run]
    exact hK _ _ h
theorem storeVar_at {w : World} {b : Nat} {f : Nat → Int} (hA : At w b 121 f) (g : Nat → Int) : (storeVar 70 ⟨b, 0, none⟩ (tv g)).run Try.prog w = .ok () (w.setCells b 0 (vals 121 g)) := by
  have := hA.store (P := Try.prog) g
  cases hq : Try.prog.info? 70 with
  | none => exact absurd size_run (by rw [hq]; simp)
  | some i =>
    have hs : i.size = 121 := by have := size_run; rw [hq] at this; simpa using this
    have hl : (vals 121 g).length = i.size := by rw [vals_len, hs]
    simpa [storeVar, sizeOf, typeInfo, hq, Value.cells, hl] using this
theorem st {ops : Array Oper} {rest : List Oper} {o : Oper} {a : Act} {w : World} {Q : Exit → Act → World → Prop} (hgd : o.guard = none) (x y : Operand) (ho : o.op = .store 70 x y) {b : Nat} {f g : Nat → Int} (hx : a.eval x = .pointer (some ⟨b, 0, none⟩)) (hy : a.eval y = tv g) (hA : At w b 121 f)
    (h : wpList Try.prog ops Q rest (a.put o.dst undef) (w.setCells b 0 (vals 121 g))) : wpList Try.prog ops Q (o :: rest) a w :=
  wpList_plain hgd fun _ hK => by
    unfold Oper.wp execOp
    simp only [ho, hx, hy, Instr.storeAt, Instr.sureAddr, Sem.run_bind, Sem.run_pure, Result.andThen_ok, storeVar_at hA g]
    exact hK _ _ h

theorem tv_new (w : World) (f : Nat → Int) : At (w.alloc (.cells (vals 121 f).toArray 70)) w.heap.size 121 f :=
  At.new w _ _ 121 f fun k hk => by rw [List.getElem?_toArray]; exact vals_get hk

set_option maxRecDepth 100000 in
set_option maxHeartbeats 4000000 in
theorem withDie_any (f d : Nat → Int) (i : Nat) (w : World) (ht : Tab f i) (hi : i ≤ 3) (hd : ∀ k, k < 6 → 0 ≤ d k ∧ d k ≤ 30) :
    Calls Try.prog 81 #[tv f, dv d] w fun e w' => e = .returned (tv (outer f d 121)) ∧ Below w.heap.size w w' := by
  have hix1 := fun (w : World) (k : Nat) (hk : k < 121) => run_index_vals (P := Try.prog) w 70 3 121 Try.underlying70 Try.underlying3 Try.sizeOf3 f hk
  have hix0 := fun (w : World) (k : Nat) (hk : k < 6) => run_index_vals (P := Try.prog) w 68 3 6 Try.underlying68 Try.underlying3 Try.sizeOf3 d hk
  simp only [← dv_vals] at hix0
  unfold dv at hix0
  have Hix0 := Lib.hid hix0; clear hix0
  have Hix1 := Lib.hid hix1; clear hix1
  have Hmid := Lib.hid (mid_outer ht hi hd)
  unfold dv
  have hA := (((tv_new w f).past (sixO d 68)).past (.cells Try.zeroCells70 70)).past (.cells Try.zeroCells70 70)
  have hD := ((At.new6 (w.alloc (.cells (vals 121 f).toArray 70)) d 68 (b := w.heap.size + 1) (by rw [size_alloc])).past (.cells Try.zeroCells70 70)).past (.cells Try.zeroCells70 70)
  have hR := (fresh ((w.alloc (.cells (vals 121 f).toArray 70)).alloc (sixO d 68)) (b := w.heap.size + 2) (by rw [size_alloc, size_alloc])).past (.cells Try.zeroCells70 70)
  have hM := fresh (((w.alloc (.cells (vals 121 f).toArray 70)).alloc (sixO d 68)).alloc (.cells Try.zeroCells70 70)) (b := w.heap.size + 3) (by rw [size_alloc, size_alloc, size_alloc])
  have hB := na (na (na (na (n0 w) (.cells (vals 121 f).toArray 70)) (sixO d 68)) (.cells Try.zeroCells70 70)) (.cells Try.zeroCells70 70)
  go_enter Try.func81, Try.ntmps81
  go_wp2_with (refine ld rfl _ rfl rfl (by assumption) ?_)
  clear hA
  go_loopw [11] (fun iv wr => ∃ s : Nat, s ≤ 121 ∧ iv = .int .i64 s ∧ Below w.heap.size w wr ∧ At wr (w.heap.size + 1) 6 d ∧ At wr (w.heap.size + 2) 121 (fun _ => 0) ∧ At wr (w.heap.size + 3) 121 (outer f d s)) (fun iv _ => 121 - (intOf iv).toNat)
  case atStart => exact ⟨0, by omega, rfl, hB, hD, hR, hM⟩
  case round =>
    clear hB hD hR hM
    obtain ⟨s, hs, rfl, hb, hd1, hr, hm⟩ := hrel
    by_cases hlt : s < 121
    · have hix := fun w => Hix1.out w s hlt
      have Hm0 := Lib.hid (Hmid.out s)
      by_cases h0 : f s = 0
      · have h0d : decide (f s = 0) = true := decide_eq_true h0
        have hz := Lib.hid (inner_zero (d := d) h0 6 (outer f d s))
        rw [h0] at hix
        go_wp2_with fail
        go_roundw
        case rel => exact ⟨s + 1, by omega, by go_num, hb, hd1, hr, by show At wr (w.heap.size + 3) 121 (inner f d s 6 (outer f d s)); rw [hz.out]; exact hm⟩
        case measure => simp [intOf]; omega
      · have h0d : decide (f s = 0) = false := decide_eq_false h0
        have h0b : (f s == 0) = false := by simpa using h0
        have hit : decide ((s : Int) < 121) = true := decide_eq_true (by omega)
        obtain ⟨e0, e1, e2, e3, e4, e5⟩ := hd1.six
        have Hin := Lib.hid (mid_inner ht hi hd Hm0.out)
        go_wp2_with fail
        clear e0 e1 e2 e3 e4 e5
        go_loopw [18] (fun kv wr => ∃ k : Nat, k ≤ 6 ∧ kv = .int .i64 k ∧ Below w.heap.size w wr ∧ At wr (w.heap.size + 1) 6 d ∧ At wr (w.heap.size + 2) 121 (fun _ => 0) ∧ At wr (w.heap.size + 3) 121 (inner f d s k (outer f d s))) (fun kv _ => 6 - (intOf kv).toNat)
        case atStart => exact ⟨0, by omega, rfl, hb, hd1, hr, hm⟩
        case round =>
          clear hb hd1 hr hm
          obtain ⟨k, hk, rfl, hb, hd1, hr, hm⟩ := hrel
          by_cases hk6 : k < 6
          · have hx := index_lt ht hi hd hk6 h0
            have hixk := fun w => Hix0.out w k hk6
            have bk := hd k hk6
            have hsm := (Hin.out k (by omega)).small ht hi (by omega) hlt (s + (d k).toNat) hx.1
            have hfs := ht.small (by omega) s hlt
            have cj := hm.cell (s + (d k).toNat) hx.1
            have zj := hm.free (s + (d k).toNat)
            have hj : ((s : Int) + d k).toNat = s + (d k).toNat := by omega
            have hjlt : (s : Int) + d k < 121 := by omega
            go_wp2_with fail
            go_roundw
            case rel => exact ⟨k + 1, by omega, by go_num, hb.setCell (p := ⟨w.heap.size + 3, s + (d k).toNat, none⟩) (by show w.heap.size ≤ w.heap.size + 3; omega) _, hd1.other (by omega) _ _, hr.other (by omega) _ _, hm.set hx.1 _⟩
            case measure => simp [intOf]; omega
          · obtain rfl : k = 6 := by omega
            go_wp2_with fail
            go_roundw
            case rel => exact ⟨s + 1, by omega, by go_num, hb, hd1, hr, hm⟩
            case measure => simp [intOf]; omega
    · obtain rfl : s = 121 := by omega
      have hm' := hm
      go_wp2_with (first | refine ld rfl _ rfl rfl hm ?_ | refine st rfl _ _ rfl rfl rfl hr ?_)
      refine ret_cell (b := w.heap.size + 2) (n := 121) (f := outer f d 121) Try.results81 rfl Try.underlying70 size_run (hr.stored (outer f d 121)) rfl ⟨rfl, ?_⟩
      exact hb.trans (setCells_below (w := wr) (p := w.heap.size + 2) (B := w.heap.size) (by omega) (vals 121 (outer f d 121)) 0)


end TableW
end Go.Proofs.Ytddnlbahelgadaa
