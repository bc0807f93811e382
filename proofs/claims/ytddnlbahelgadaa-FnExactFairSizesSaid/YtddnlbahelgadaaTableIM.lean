/-
  Contracts of the functions that make the table of a pool.
-/
import Derived.Test.YtddnlbahelgadaaRows
import Derived.Test.YtddnlbahelgadaaTableWM
import Derived.Test.YtddnlbahelgadaaTableM
import Derived.Test.YtddnlbahelgadaaSumsM
import Derived.Test.YtddnlbahelgadaaPoolW
import Derived.Test.YtddnlbahelgadaaSortW
import Derived.Test.YtddnlbahelgadaaDicesW
import Derived.Test.YtddnlbahelgadaaOpenD
import Derived.WalkKit
import Derived.WalkLawsBesides
import Derived.WalkSpells
import Derived.ProofKit
import Derived.OpenShut
import Derived.Deep.RegionWith
import Derived.Deep.WholeRow
import Derived.Deep.QuietTactic
import Derived.BigQuiet
namespace Go.Proofs.Ytddnlbahelgadaa
open Go.ChangeShapes Go.WideShapes Go.ChangeAt Go.RowKit
open Go.ChangeMaps (open_string shut_string)

namespace TableI
open Dice Arr OpenD DieW SortW DicesW PoolW SumsW Table TableW

theorem b0 {ops : Array Oper} {rest : List Oper} {o : Oper} {a : Act} {w : World} {Q : Exit → Act → World → Prop} (hgd : o.guard = none) (ho : o.op = .build 70 #[])
    (h : wpList Try.prog ops Q rest (a.put o.dst (tv fun _ => 0)) w) : wpList Try.prog ops Q (o :: rest) a w := by
  have e : Try.prog.built 70 [] = some (vals 121 fun _ => 0).toArray := by kernel_rfl
  refine wpList_build hgd 70 #[] ho ?_ ?_
  · simp only [List.map_toArray, List.map_nil, e, Option.isSome_some]
  · simp only [List.map_toArray, List.map_nil, e, Option.getD_some]
    exact h
theorem b1 {ops : Array Oper} {rest : List Oper} {o : Oper} {a : Act} {w : World} {Q : Exit → Act → World → Prop} (hgd : o.guard = none) (ho : o.op = .build 70 #[(0, .const (.int .i64 1))])
    (h : wpList Try.prog ops Q rest (a.put o.dst (tv Table.one)) w) : wpList Try.prog ops Q (o :: rest) a w := by
  have e : Try.prog.built 70 [(0, .int .i64 1)] = some (vals 121 Table.one).toArray := by kernel_rfl
  refine wpList_build hgd 70 #[(0, .const (.int .i64 1))] ho ?_ ?_
  · simp only [List.map_toArray, List.map_cons, List.map_nil, Act.eval, e, Option.isSome_some]
  · simp only [List.map_toArray, List.map_cons, List.map_nil, Act.eval, e, Option.getD_some]
    exact h
theorem store_ex {w : World} {b : Nat} {f : Nat → Int} (h : At w b 121 f) (g : Nat → Int) : ∃ w2, (storeCells ⟨b, 0, none⟩ (vals 121 g)).run Try.prog w = .ok () w2 ∧ At w2 b 121 g ∧ (∀ B, B ≤ b → Below B w w2) ∧ ∀ p n f', p ≠ b → At w p n f' → At w2 p n f' :=
  ⟨w.setCells b 0 (vals 121 g), h.store g, h.stored g, fun _ hB => setCells_below hB _ _, fun _ _ _ hp hf => hf.keep hp _ _⟩
theorem die_range' {P : Nat → Nat → Int} {n : Nat} (h : pooled P n) : ∀ i, i < n → ∀ k, k < 6 → 0 ≤ P i k ∧ P i k ≤ 30 := fun i hi k hk => ⟨((of_decide_eq_true (h i hi) : upto (P i) 6) k hk).1, ((of_decide_eq_true (h i hi) : upto (P i) 6) k hk).2.1⟩

set_option maxRecDepth 100000 in
set_option maxHeartbeats 4000000 in
theorem implTable_any (A : Option Addr) (n c : Nat) (P : Nat → Nat → Int) (w : World) (h : Row w A n P) (hn : n ≤ maxLen) :
    Calls Try.prog 69 #[.slice A n c] w fun e w' => e = .returned (.tuple (if isPool n P then #[tv (T P n), .bool true] else #[tv fun _ => 0, .bool false])) ∧ Below w.heap.size w w' := by
  have hp := fun w h => implIsPool_any A n c P w h hn
  have hR := fresh w (b := w.heap.size) rfl
  cases hq : isPool n P
  · rw [hq] at hp
    simp only [Bool.false_eq_true, ↓reduceIte]
    have Hp := Lib.hid hp; clear hp hq
    go_enter Try.func69, Try.ntmps69
    go_wp2_with fail
    refine (Hp.out _ (h.up (na (n0 w) _))).mono ?_
    rintro e w1 ⟨rfl, hb⟩
    have hbl := nx (na (n0 w) _) hb
    have hr := hR.up hb
    clear hb
    go_wp2_with (first | refine ld rfl _ rfl rfl (by assumption) ?_ | refine st rfl _ _ rfl rfl rfl (by assumption) ?_ | refine b0 rfl rfl ?_ | refine b1 rfl rfl ?_)
    refine ret_cell_tmp (b := w.heap.size) (n := 121) (f := fun _ => 0) Try.results69 rfl rfl Try.underlying70 size_run (hr.stored fun _ => 0) rfl ⟨rfl, ?_⟩
    exact hbl.trans (setCells_below (w := w1) (p := w.heap.size) (B := w.heap.size) (Nat.le_refl _) (vals 121 fun _ => 0) 0)
  · obtain ⟨h1, h4, hd⟩ := of_pool hq
    rw [hq] at hp
    simp only [↓reduceIte]
    have hT := tab_T h4 (die_range' hd)
    have hdr := die_range' hd
    have Hp := Lib.hid hp; clear hp hq
    have H := Lib.hid h; clear h
    have HT := Lib.hid hT; clear hT
    have hwd := fun (f d : Nat → Int) (i : Nat) (w : World) (ht : Tab f i) (hi : i ≤ 3) (hd : ∀ k, k < 6 → 0 ≤ d k ∧ d k ≤ 30) => withDie_any f d i w ht hi hd
    unfold dv at hwd
    have Hw := Lib.hid hwd; clear hwd
    go_enter Try.func69, Try.ntmps69
    go_wp2_with fail
    refine (Hp.out _ (H.out.up (na (n0 w) _))).mono ?_
    rintro e w1 ⟨rfl, hb⟩
    have hbl := nx (na (n0 w) _) hb
    have hr := hR.up hb
    clear hb
    obtain ⟨w2, hst, hA2, hB2, hK2⟩ := store_ex (fresh w1 (b := w1.heap.size) rfl) Table.one
    have hbl2 : Below w.heap.size w w2 := (na hbl _).trans (hB2 _ hbl.size)
    have hr2 := hK2 w.heap.size 121 _ (Nat.ne_of_lt hr.lt) (hr.past _)
    clear hB2 hK2
    have hlt1 : w.heap.size < w1.heap.size := hr.lt
    clear hr hbl
    go_wp2_with (refine b1 rfl rfl ?_)
    clear hst
    go_loopw [14] (fun iv wr => ∃ k : Nat, k ≤ n ∧ iv = .int .i64 k ∧ Below w.heap.size w wr ∧ At wr w.heap.size 121 (fun _ => 0) ∧ At wr w1.heap.size 121 (T P k)) (fun iv _ => n - (intOf iv).toNat)
    case atStart => exact ⟨0, by omega, rfl, hbl2, hr2, hA2⟩
    case round =>
      clear hbl2 hr2 hA2
      obtain ⟨k, hk, rfl, hb, hr, hW⟩ := hrel
      by_cases hlt : k < n
      · obtain ⟨bk, o, rfl, hbk, hc⟩ := (H.out.below (Nat.le_refl _) hb).at_ hlt
        have c0 := hc 0 (by omega)
        have c1 := hc 1 (by omega)
        have c2 := hc 2 (by omega)
        have c3 := hc 3 (by omega)
        have c4 := hc 4 (by omega)
        have c5 := hc 5 (by omega)
        simp only [← Nat.add_assoc, Nat.add_zero] at c0 c1 c2 c3 c4 c5
        have hW' := hW.past (sixO (P k) 68)
        have hr' := hr.past (sixO (P k) 68)
        have Hwk := Lib.hid (fun w => Hw.out (T P k) (P k) k w (HT.out k (by omega)) (by omega) (hdr k hlt))
        clear hr hc
        go_wp2_with (refine ld rfl _ rfl rfl hW' ?_)
        refine (Hwk.out _).mono ?_
        rintro e w3 ⟨rfl, hb3⟩
        have hB3 := nx (na hb _) hb3
        obtain ⟨w4, hst, hA4, hB4, hK4⟩ := store_ex (hW'.up hb3) (outer (T P k) (P k) 121)
        have hbl4 := hB3.trans (hB4 _ (Nat.le_of_lt hlt1))
        have hr4 := hK4 w.heap.size 121 _ (Nat.ne_of_lt hlt1) (hr'.up hb3)
        clear hB4 hK4 hb3 hB3 hW' hr' c0 c1 c2 c3 c4 c5 hW
        go_wp2_with fail
        go_roundw
        case rel => exact ⟨k + 1, by omega, by go_num, hbl4, hr4, hA4⟩
        case measure => simp [intOf]; omega
      · obtain rfl : k = n := by omega
        obtain ⟨w4, hst, hA4, hB4, hK4⟩ := store_ex hr (T P k)
        have hbl4 := hb.trans (hB4 _ (Nat.le_refl _))
        clear hK4 hB4
        go_wp2_with (refine ld rfl _ rfl rfl hW ?_)
        exact ret_cell_tmp (b := w.heap.size) (n := 121) (f := T P k) Try.results69 rfl rfl Try.underlying70 size_run hA4 rfl ⟨rfl, hbl4⟩


end TableI
end Go.Proofs.Ytddnlbahelgadaa
