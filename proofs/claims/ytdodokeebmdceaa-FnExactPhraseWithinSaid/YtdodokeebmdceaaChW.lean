/-
  chanceToCome[int] of the program, where one state is all.
-/
import Derived.Test.YtdodokeebmdceaaRows
import Derived.Test.YtdodokeebmdceaaArr
import Derived.Test.YtdodokeebmdceaaAnyR
import Derived.Test.YtdodokeebmdceaaDieW
import Derived.Test.YtdodokeebmdceaaSortW
import Derived.Test.YtdodokeebmdceaaFracW
import Derived.Test.YtdodokeebmdceaaFracL
import Derived.Test.YtdodokeebmdceaaCutW
import Derived.Test.YtdodokeebmdceaaAll6
import Derived.Test.YtdodokeebmdceaaAllL
import Derived.Test.YtdodokeebmdceaaOwnL
import Derived.Test.YtdodokeebmdceaaFracM
import Derived.Test.YtdodokeebmdceaaWgtM
import Derived.Test.YtdodokeebmdceaaWgtW
import Derived.Test.YtdodokeebmdceaaWaitW
import Derived.Test.YtdodokeebmdceaaBurI
import Derived.Test.YtdodokeebmdceaaOpenD
import Derived.Maps.OwnOps
import Derived.Maps.RangeWalk
import Derived.Maps.Ext
import Derived.WalkKit
import Derived.WalkLawsBesides
import Derived.WalkSpells
import Derived.ProofKit
import Derived.OpenShut
import Derived.Deep.RegionWith
import Derived.Deep.QuietTactic
import Derived.BigQuiet
namespace Go.Proofs.Ytdodokeebmdceaa
open Go.ChangeShapes Go.WideShapes Go.ChangeAt Go.RowKit
open Go.ChangeMaps (open_string shut_string)

namespace ChW
open Dice Arr DieW SortW FracW CutW All6 AllL OwnL FracM WgtM WgtW WaitW


/-- What the number of ways comes to, roll by roll. -/
def cc (q v : Nat) : Nat → Nat
  | 0 => 0
  | i + 1 => 6 * cc q v i + q ^ i * v
theorem cc_eq {q v : Nat} (h : q + v = 6) : ∀ i, cc q v i + q ^ i = 6 ^ i
  | 0 => rfl
  | i + 1 => by
    have ih := cc_eq h i
    show 6 * cc q v i + q ^ i * v + q ^ (i + 1) = 6 ^ (i + 1)
    rw [Nat.pow_succ, Nat.pow_succ, ← ih]
    have e : q ^ i * v + q ^ i * q = q ^ i * 6 := by rw [← Nat.mul_add]; congr 1; omega
    omega
theorem intK : Go.Maps.Keyed Try.prog 3 := Go.Maps.int_keyed Try.underlying3
def k0 : Lit := .int .i64 0
/-- A map that has no key but 0. -/
def Only (D : DataW Unit) : Prop := ∀ kl, Go.Maps.has D kl = true → kl = k0
def Reads (D : DataW Unit) (c : Nat) : Prop := D.atKey k0 (.lit (.int .i64 0)) = .lit (.int .i64 (c : Int))
theorem put_only {D : DataW Unit} (h : Only D) (d : DataW Unit) : Only (D.put k0 d) := fun kl hk => by
  by_cases e : kl = k0
  · exact e
  · rw [Go.Maps.has_put_other e] at hk
    exact h kl hk
theorem wf_small {c : Nat} (h : c ≤ 9000000000000000000) : (Lit.int .i64 (c : Int)).wf = true := WalkArith.wf_i64 (by omega)
theorem wpList_insert_own {H : Type} {P : Program} (w : World) {ops : Array Oper} {rest : List Oper} {o : Oper} {a : Act} {Q : Exit → Act → World → Prop}
    (hg : o.guard = none) (m x v : Operand) (t : TypeId) (hop : o.op = Op.insert t m x v)
    (k e : TypeId) (K : Go.Maps.Keyed P k) (ht : P.underlying t = some (.map k e)) (R : Value → Option (DataW H × List MemPlace)) (b n : Nat) (D : DataW H)
    (hm : a.eval m = .map (some b)) (hown : w.ownsMap P k R b n D) (hn : n < maxLen) (key val : Value) (kl : Lit) (hx : a.eval x = key) (hv : a.eval v = val) (hkey : keyOf P k key = some kl)
    (d : DataW H) (ps : List MemPlace) (hval : R val = some (d, ps))
    (hK : ∀ w', w'.ownsMap P k R b (n + 1) (D.put kl d) → w.grownBy w' (some b) → wpList P ops Q rest (a.put o.dst undef) w') :
    wpList P ops Q (o :: rest) a w := by
  refine wpList_plain hg fun K' hK' => ?_
  obtain ⟨w', hrun, r1, r2⟩ := hown.update K ht hn hkey hval
  unfold Oper.wp
  simp [execOp, hop, hm, hx, hv, hrun, Result.andThen]
  exact hK' _ _ (hK w' r1 r2)
theorem grown_none {w w' : World} (h : Below w.heap.size w w') : w.grownBy w' none := ⟨h.os, h.tape, h.output, h.size, fun i hi _ => h.block i hi⟩

set_option maxHeartbeats 2000000 in
theorem clos_any (s x y : Int) (b : Nat) (w : World) (hc : w.cell? ⟨b, 0, none⟩ = some (.int .i64 y)) :
    Calls Try.prog 61 #[.int .i64 s, .int .i64 x, .pointer (some ⟨b, 0, none⟩)] w fun e w' => e = .returned (.tuple #[.int .i64 s, .bool (x == y)]) ∧ Below w.heap.size w w' := by
  have hc' : w.drew.cell? ⟨b, 0, none⟩ = some (.int .i64 y) := hc
  go_enter Try.func61, Try.ntmps61
  go_wp2_with fail
  go_region
  all_goals
    go_wp2_with fail
    refine bodyPost_ret (results_tmp2 rfl _ _ _) rfl ?_
    exact ⟨rfl, (n0 w).drew⟩
theorem zeroE (w : World) : (zeroValue 3).run Try.prog w = .ok (.int .i64 0) w := by kernel_rfl
theorem only_empty : Only (.map []) := fun kl h => by cases h
theorem reads_empty : Reads (.map []) 0 := rfl
theorem reads_put {D : DataW Unit} (h : Go.Maps.IsMap D) (c : Nat) : Reads (D.put k0 (.lit (.int .i64 (c : Int)))) c := Go.Maps.atKey_put_same (k := k0) h (by show Go.WideAt.IsKeyLit (.int .i64 0); trivial) _ _
theorem reads_no {D : DataW Unit} {c : Nat} (h : Reads D c) (hn : Go.Maps.has D k0 = false) : c = 0 := by
  have h1 := Go.Maps.atKey_of_not_has hn (.lit (.int .i64 0))
  unfold Reads at h
  rw [h1] at h
  injection h with h
  injection h with _ h
  omega
theorem reads_int {D : DataW Unit} {c : Nat} {y : Int} (h : Reads D c) (hy : D.atKey k0 (.lit (.int .i64 0)) = .lit (.int .i64 y)) : y = (c : Int) := by
  unfold Reads at h
  rw [h] at hy
  injection hy with h
  injection h with _ h
  exact h.symm
theorem k0_eq {y : Int} (h : Lit.int .i64 y = k0) : y = 0 := by
  unfold k0 at h
  injection h
theorem k0_same (left : Lit → Bool) : (left k0 && !k0.sameKey (.int .i64 0)) = false := by
  rw [show k0.sameKey (.int .i64 0) = true from by decide]
  simp

def okC (d : Nat → Int) (n : Int) : Bool := isDie d && decide (0 ≤ n ∧ n ≤ 12)
def cx (d : Nat → Int) (x n : Int) : Int := if okC d n then (num (cc (6 - wgt d x 6) (wgt d x 6) n.toNat) (6 ^ n.toNat) : Nat) else 0
def cy (d : Nat → Int) (x n : Int) : Int := if okC d n then (den (cc (6 - wgt d x 6) (wgt d x 6) n.toNat) (6 ^ n.toNat) : Nat) else 0
theorem c_no {d : Nat → Int} {x n : Int} (h : okC d n = false) : cx d x n = 0 ∧ cy d x n = 0 := by simp [cx, cy, h]
theorem c_yes {d : Nat → Int} {x : Int} {n : Nat} (h : okC d n = true) : cx d x n = (num (cc (6 - wgt d x 6) (wgt d x 6) n) (6 ^ n) : Nat) ∧ cy d x n = (den (cc (6 - wgt d x 6) (wgt d x 6) n) (6 ^ n) : Nat) := by simp [cx, cy, h]
theorem c_1 {d : Nat → Int} {n : Int} (h : isDie d = false) : okC d n = false := by simp [okC, h]
theorem c_2 {d : Nat → Int} {n : Int} (h : ¬ (0 ≤ n ∧ n ≤ 12)) : okC d n = false := by simp only [okC, decide_eq_false h, Bool.and_false]
theorem c_4 {d : Nat → Int} {n : Int} (hd : isDie d = true) (h : 0 ≤ n ∧ n ≤ 12) : okC d n = true := by simp [okC, hd, h]
theorem cc_bound {q v n : Nat} (h : q + v = 6) (hn : n ≤ 12) : cc q v n ≤ 2176782336 ∧ q ^ n ≤ 2176782336 ∧ 6 ^ n ≤ 2176782336 ∧ 1 ≤ 6 ^ n := by
  have h1 := cc_eq h n
  have h2 : 6 ^ n ≤ 6 ^ 12 := Nat.pow_le_pow_right (by omega) hn
  have h3 : (6 : Nat) ^ 12 = 2176782336 := by decide
  have h4 : 1 ≤ 6 ^ n := Nat.one_le_pow _ _ (by omega)
  rw [h3] at h2
  generalize 6 ^ n = a at *
  generalize q ^ n = b at *
  exact ⟨by omega, by omega, h2, h4⟩

set_option maxRecDepth 100000 in
set_option maxHeartbeats 8000000 in
theorem implCh_any (d : Nat → Int) (x n : Int) (bx : Nat) (w : World) (hcx : w.cell? ⟨bx, 0, none⟩ = some (.int .i64 x)) (hbx : bx < w.heap.size) :
    Calls Try.prog 60 #[dv d, .int .i64 n, .func (Fn.func 61) #[] #[.pointer (some ⟨bx, 0, none⟩)]] w fun e w' => e = .returned (.tuple #[v2 (cx d x n) (cy d x n), .bool (okC d n)]) ∧ Below w.heap.size w w' := by
  have hc := fun w => implIsDie_any d w
  unfold dv at hc
  have Hc := Lib.hid hc; clear hc
  cases hr : isDie d
  · rw [hr] at Hc
    rw [c_1 hr, (c_no (c_1 hr)).1, (c_no (c_1 hr)).2]
    clear hr
    unfold dv
    have hB0 := na (na (n0 w) (sixO d 22)) (.cells #[.int .i64 0, .int .i64 0] 29)
    have hD0 := (At.new6 w d 22 rfl).past (.cells #[.int .i64 0, .int .i64 0] 29)
    have hR0 := At.new2 (w.alloc (sixO d 22)) 29
    rw [size_alloc] at hR0
    obtain ⟨e0, e1, e2, e3, e4, e5⟩ := hD0.six
    go_enter Try.func60, Try.ntmps60
    go_wp2_with fail
    refine (Hc.out _).mono ?_
    rintro e w1 ⟨rfl, hb1⟩
    have hR1 := hR0.up hb1
    have hD1 := hD0.up hb1
    have hB1 := nx hB0 hb1
    clear e0 e1 e2 e3 e4 e5
    have hRX := hR1
    have c0 := hRX.cell 0 (by omega)
    have c1 := hRX.cell 1 (by omega)
    have z0 := hRX.free 0
    have z1 := hRX.free 1
    go_wp2_with fail
    refine ret_cell_tmp (b := w.heap.size + 1) (n := 2) (f := fr 0 0) Try.results60 rfl rfl Try.underlying29 (by kernel_rfl) (fin2' hRX _ _) rfl ⟨rfl, ?_⟩
    exact (hB1.setCell (p := ⟨w.heap.size + 1, 0, none⟩) (Nat.le_succ _) _).setCell (p := ⟨w.heap.size + 1, 1, none⟩) (Nat.le_succ _) _
  rw [hr] at Hc
  by_cases hn0 : n < 0
  · have hg : decide (n < 0) = true := decide_eq_true hn0
    have hno := c_2 (d := d) (n := n) (by omega)
    rw [hno, (c_no hno).1, (c_no hno).2]
    clear hr hno
    unfold dv
    have hB0 := na (na (n0 w) (sixO d 22)) (.cells #[.int .i64 0, .int .i64 0] 29)
    have hD0 := (At.new6 w d 22 rfl).past (.cells #[.int .i64 0, .int .i64 0] 29)
    have hR0 := At.new2 (w.alloc (sixO d 22)) 29
    rw [size_alloc] at hR0
    obtain ⟨e0, e1, e2, e3, e4, e5⟩ := hD0.six
    go_enter Try.func60, Try.ntmps60
    go_wp2_with fail
    refine (Hc.out _).mono ?_
    rintro e w1 ⟨rfl, hb1⟩
    have hR1 := hR0.up hb1
    have hD1 := hD0.up hb1
    have hB1 := nx hB0 hb1
    clear e0 e1 e2 e3 e4 e5
    have hRX := hR1
    have c0 := hRX.cell 0 (by omega)
    have c1 := hRX.cell 1 (by omega)
    have z0 := hRX.free 0
    have z1 := hRX.free 1
    go_wp2_with fail
    refine ret_cell_tmp (b := w.heap.size + 1) (n := 2) (f := fr 0 0) Try.results60 rfl rfl Try.underlying29 (by kernel_rfl) (fin2' hRX _ _) rfl ⟨rfl, ?_⟩
    exact (hB1.setCell (p := ⟨w.heap.size + 1, 0, none⟩) (Nat.le_succ _) _).setCell (p := ⟨w.heap.size + 1, 1, none⟩) (Nat.le_succ _) _
  have hg : decide (n < 0) = false := decide_eq_false hn0
  by_cases hn3 : 12 < n
  · have hg3 : decide (12 < n) = true := decide_eq_true hn3
    have hno := c_2 (d := d) (n := n) (by omega)
    rw [hno, (c_no hno).1, (c_no hno).2]
    clear hr hno hn0
    unfold dv
    have hB0 := na (na (n0 w) (sixO d 22)) (.cells #[.int .i64 0, .int .i64 0] 29)
    have hD0 := (At.new6 w d 22 rfl).past (.cells #[.int .i64 0, .int .i64 0] 29)
    have hR0 := At.new2 (w.alloc (sixO d 22)) 29
    rw [size_alloc] at hR0
    obtain ⟨e0, e1, e2, e3, e4, e5⟩ := hD0.six
    go_enter Try.func60, Try.ntmps60
    go_wp2_with fail
    refine (Hc.out _).mono ?_
    rintro e w1 ⟨rfl, hb1⟩
    have hR1 := hR0.up hb1
    have hD1 := hD0.up hb1
    have hB1 := nx hB0 hb1
    clear e0 e1 e2 e3 e4 e5
    have hRX := hR1
    have c0 := hRX.cell 0 (by omega)
    have c1 := hRX.cell 1 (by omega)
    have z0 := hRX.free 0
    have z1 := hRX.free 1
    go_wp2_with fail
    refine ret_cell_tmp (b := w.heap.size + 1) (n := 2) (f := fr 0 0) Try.results60 rfl rfl Try.underlying29 (by kernel_rfl) (fin2' hRX _ _) rfl ⟨rfl, ?_⟩
    exact (hB1.setCell (p := ⟨w.heap.size + 1, 0, none⟩) (Nat.le_succ _) _).setCell (p := ⟨w.heap.size + 1, 1, none⟩) (Nat.le_succ _) _
  have hg3 : decide (12 < n) = false := decide_eq_false hn3
  have hok := c_4 hr (show 0 ≤ n ∧ n ≤ 12 by omega)
  obtain ⟨n, rfl⟩ : ∃ m : Nat, n = m := ⟨n.toNat, by omega⟩
  rw [hok, (c_yes hok).1, (c_yes hok).2]
  have hWl := wgt_le d x 6
  obtain ⟨q, hq⟩ : ∃ q, q = 6 - wgt d x 6 := ⟨_, rfl⟩
  obtain ⟨v, hv⟩ : ∃ v, v = wgt d x 6 := ⟨_, rfl⟩
  have hqv : q + v = 6 := by omega
  rw [← hq, ← hv]
  have Hv := Lib.hid hv; clear hv
  have Hq := Lib.hid hq; clear hq
  have Hbd := Lib.hid (fun i (h : i ≤ 12) => cc_bound (q := q) (v := v) (n := i) hqv h)
  have hn12 : n ≤ 12 := by omega
  have hbn := Hbd.out n hn12
  have Ho := Lib.hid (fun w => outcomesL n w (by omega))
  rw [show all6 n = 6 ^ n from rfl] at Ho
  have hcut : ∀ w, Calls Try.prog 56 #[.int .i64 (cc q v n : Nat), .int .i64 (6 ^ n : Nat)] w fun e w' => e = .returned (v2 (num (cc q v n) (6 ^ n) : Nat) (den (cc q v n) (6 ^ n) : Nat)) ∧ Below w.heap.size w w' := fun w => FracL.fractionL _ _ w (by omega) (by omega) hbn.2.2.2
  have Hcut := Lib.hid hcut; clear hcut
  have hix0 := fun (w : World) (k : Nat) (hk : k < 6) => run_index_vals (P := Try.prog) w 22 3 6 Try.underlying22 Try.underlying3 Try.sizeOf3 d hk
  simp only [← dv_vals] at hix0
  unfold dv at hix0
  have Hix := Lib.hid hix0; clear hix0
  have Hcl := Lib.hid (fun (s y : Int) w (h : w.cell? ⟨bx, 0, none⟩ = some (.int .i64 x)) => clos_any s y x bx w h)
  clear hok hr hbn hn0 hn3
  have hmm := @run_makeMap Try.prog
  unfold dv
  have hB0 := na (na (n0 w) (sixO d 22)) (.cells #[.int .i64 0, .int .i64 0] 29)
  have hD0 := (At.new6 w d 22 rfl).past (.cells #[.int .i64 0, .int .i64 0] 29)
  have hR0 := At.new2 (w.alloc (sixO d 22)) 29
  rw [size_alloc] at hR0
  obtain ⟨e0, e1, e2, e3, e4, e5⟩ := hD0.six
  go_enter Try.func60, Try.ntmps60
  go_wp2_with fail
  refine (Hc.out _).mono ?_
  rintro e w1 ⟨rfl, hb1⟩
  have hR1 := hR0.up hb1
  have hD1 := hD0.up hb1
  have hB1 := nx hB0 hb1
  clear e0 e1 e2 e3 e4 e5
  clear hb1 hB0
  obtain ⟨W, hW⟩ : ∃ W, W = w1 := ⟨_, rfl⟩
  rw [← hW] at hR1 hD1 hB1 ⊢
  have hcx1 : W.cell? ⟨bx, 0, none⟩ = some (.int .i64 x) := (hB1.cell (p := ⟨bx, 0, none⟩) hbx).trans hcx
  have hbx1 : bx < W.heap.size := Nat.lt_of_lt_of_le hbx hB1.size
  clear hW hcx hbx hR0 hD0
  have HD := Lib.hid hD1; clear hD1
  have HR := Lib.hid hR1; clear hR1
  have HB := Lib.hid hB1; clear hB1
  have Hcx := Lib.hid hcx1; clear hcx1
  have e1 : (W.alloc (.map #[] 0)).heap.size = W.heap.size + 1 := by simp
  have hmade : (W.alloc (.map #[] 0)).ownsMap Try.prog 3 (plainElem (H := Unit) Try.prog 3) W.heap.size 0 (.map []) := World.ownsMap_made _ _ _ _
  go_wp2_with (first | (refine wpList_insert_own _ rfl _ _ _ 79 rfl 3 3 intK Try.underlying79 _ W.heap.size _ _ rfl hmade (by unfold maxLen; omega) _ _ k0 rfl rfl (Go.Maps.keyOf_int_mk Try.underlying3 (by decide)) _ [] (plainElem_int Try.underlying3 (by decide)) ?_; intro w2 hown2 hgrow2) | go_in)
  have hnx2 := ((Below.refl W.heap.size W).alloc (Nat.le_refl _) (.map #[] 0)).grown hgrow2 (by omega) (fun k e => by cases e; exact Nat.le_refl _)
  have hso := hown2.lt
  go_loopw [9, 10, 34] (fun mv cv iv wr => ∃ (i bo no : Nat) (D : DataW Unit), i ≤ n ∧ iv = .int .i64 i ∧ mv = .map (some bo) ∧ cv = .int .i64 (cc q v i : Nat) ∧ wr.ownsMap Try.prog 3 (plainElem (H := Unit) Try.prog 3) bo no D ∧ no ≤ 6 ∧ Only D ∧ Reads D (q ^ i) ∧ W.heap.size ≤ bo ∧ Below W.heap.size W wr) (fun _ _ iv _ => n - (intOf iv).toNat)
  case atStart => exact ⟨0, W.heap.size, 1, _, by omega, rfl, rfl, rfl, hown2, by omega, put_only only_empty _, reads_put Go.Maps.isMap_empty 1, Nat.le_refl _, hnx2⟩
  case round =>
    clear hown2 hnx2 hgrow2 hso hmade e1
    obtain ⟨i, bo, no, D, hi, rfl, rfl, rfl, hown, hno, hon, hrd, hbo, hnx⟩ := hrel
    generalize wr = W2 at *
    by_cases hlt : i < n
    · have hit : decide ((i : Int) < (n : Int)) = true := decide_eq_true (by omega)
      have hitN : decide (i < n) = true := decide_eq_true hlt
      obtain ⟨bc, bq, _, _⟩ := Hbd.out i (by omega)
      obtain ⟨bc2, bq2, _, _⟩ := Hbd.out (i + 1) (by omega)
      have hcs : Hid (cc q v (i + 1) = 6 * cc q v i + q ^ i * v) := rfl
      have hqs : Hid (q ^ (i + 1) = q ^ i * q) := Nat.pow_succ _ _
      rw [hcs.out] at bc2
      rw [hqs.out] at bq2
      generalize cc q v i = C at *
      obtain ⟨F, hF⟩ : ∃ F, F = q ^ i := ⟨_, rfl⟩
      rw [← hF] at hrd bq bc2 bq2 hcs hqs
      clear hF
      have e1 : (W2.alloc (.map #[] 0)).heap.size = W2.heap.size + 1 := by simp
      have hbl := hown.lt
      have hsz := hnx.size
      have hmade : (W2.alloc (.map #[] 0)).ownsMap Try.prog 3 (plainElem (H := Unit) Try.prog 3) W2.heap.size 0 (.map []) := World.ownsMap_made _ _ _ _
      go_wp2_with (first
        | (at_range; refine wpList_range_own _ rfl _ 79 rfl 3 3 intK Try.underlying79 _ bo no D rfl (hown.alloc _) ?_; intro w0 hrg0 hg0 hs0)
        | go_in)
      go_frame
      rw [e1] at hrg0 hs0 ⊢
      have hm0 := hmade.kept hg0 (by simp)
      have hnx0 := (hnx.alloc (by omega) (.map #[] 0)).grown hg0 (by omega) (fun j hj => by cases hj)
      clear hmade e1 hg0
      go_loopw [10] (fun cv wr => ∃ (left : Lit → Bool) (cnt kn m r : Nat) (Dn : DataW Unit), wr.ranges Try.prog 3 (plainElem (H := Unit) Try.prog 3) bo (W2.heap.size + 1) no D left cnt ∧ wr.ownsMap Try.prog 3 (plainElem (H := Unit) Try.prog 3) W2.heap.size kn Dn ∧ (left k0 = true → kn = 0) ∧ kn ≤ 6 ∧ Only Dn ∧ Reads Dn r ∧ Hid (r = if left k0 = true then 0 else F * q) ∧ cv = .int .i64 (m : Nat) ∧ Hid (m = 6 * C + if left k0 = true then 0 else F * v) ∧ (∀ kl, left kl = true → kl = k0) ∧ Below W.heap.size W wr) (fun _ wr => wr.rangeLeft bo (W2.heap.size + 1))
      case atStart =>
        refine ⟨_, _, 0, 6 * C, 0, .map [], hrg0, hm0, fun _ => rfl, by omega, only_empty, reads_empty, ?_, by go_num, ?_, hon, hnx0⟩
        · show 0 = if _ then 0 else F * q
          cases hh : Go.Maps.has D k0
          · rw [reads_no hrd hh, if_neg (by decide), Nat.zero_mul]
          · rw [if_pos rfl]
        · show 6 * C = 6 * C + if _ then 0 else F * v
          cases hh : Go.Maps.has D k0
          · rw [reads_no hrd hh, if_neg (by decide), Nat.zero_mul]; rfl
          · rw [if_pos rfl]; rfl
      case round =>
        clear hm0 hnx0 hrg0 hs0 hown
        obtain ⟨left, cnt, kn, m, r, Dn, hrg, hmn, hk1, hk6, honn, hrdn, hr, rfl, hm, hL, hnx⟩ := hrel
        go_wp2_with (first
          | (at_next; refine wpList_next_ranges_ii _ rfl _ rfl 3 3 .i64 .i64 intK Try.underlying3 Try.underlying3 bo (W2.heap.size + 1) no _ _ _ rfl hrg ?_ ?_)
          | go_in)
        · intro hc0 hl0
          have hm' := hm.out
          have hr' := hr.out
          rw [hl0 k0, if_neg (by decide)] at hm' hr'
          have Hm' := Lib.hid hm'; clear hm' hm
          have Hr' := Lib.hid hr'; clear hr' hr
          go_wp2
          go_roundw
          case rel => exact ⟨i + 1, W2.heap.size, kn, Dn, by omega, by go_num, rfl, by rw [hcs.out, ← Hm'.out], hmn, hk6, honn, by rw [hqs.out, ← Hr'.out]; exact hrdn, by omega, hnx⟩
          case measure => simp [intOf]; omega
        · intro y c w1 cnt1 hwy hwc hly hat hrg1 hlt1 hg1 hs1 hen
          obtain rfl := k0_eq (hL _ hly)
          obtain rfl := reads_int hrd (hat _)
          have hl1 : left k0 = true := hly
          have hm' := hm.out
          have hr' := hr.out
          rw [hl1, if_pos rfl] at hm' hr'
          subst hr'
          have hm6 : m = 6 * C := hm'
          subst hm6
          clear hm' hm hr
          have hkn := hk1 hl1
          subst hkn
          have hm1 := hmn.kept hg1 (fun e => by injection e with e; omega)
          have hnx1 := hnx.grown hg1 (by have := hnx.size; omega) (fun j hj => by cases hj; omega)
          have hDc := HD.out.below HD.out.lt hnx1
          obtain ⟨e0, e1, e2, e3, e4, e5⟩ := hDc.six
          go_wp2_with fail
          clear e0 e1 e2 e3 e4 e5 hDc hen
          go_loopw [10, 47] (fun cv jv wr => ∃ (j kn cnt2 M r : Nat) (Dn : DataW Unit), j ≤ 6 ∧ jv = .int .i64 j ∧ wr.ranges Try.prog 3 (plainElem (H := Unit) Try.prog 3) bo (W2.heap.size + 1) no D (fun z => left z && !z.sameKey (.int .i64 0)) cnt2 ∧ cnt2 ≤ cnt1 ∧ wr.ownsMap Try.prog 3 (plainElem (H := Unit) Try.prog 3) W2.heap.size kn Dn ∧ kn ≤ j ∧ Only Dn ∧ Reads Dn r ∧ Hid (r = F * (j - wgt d x j)) ∧ cv = .int .i64 (M : Nat) ∧ Hid (M = 6 * C + F * wgt d x j) ∧ Below W.heap.size W wr) (fun _ jv _ => 6 - (intOf jv).toNat)
          case atStart => exact ⟨0, 0, cnt1, 6 * C, 0, Dn, by omega, rfl, hrg1, Nat.le_refl _, hm1, by omega, honn, hrdn, by show 0 = F * (0 - 0); rw [Nat.sub_self, Nat.mul_zero], by go_num, by show 6 * C = 6 * C + F * 0; rw [Nat.mul_zero]; rfl, hnx1⟩
          case round =>
            clear hm1 hnx1 hmn hnx hrdn honn
            obtain ⟨j, kn, cnt2, M, r, Dn, hj, rfl, hrg2, hc2, hmn, hkn, honn, hrdn, hr, rfl, hM, hnx⟩ := hrel
            by_cases hj6 : j < 6
            · have hix := fun w => Hix.out w j hj6
              have hwl := wgt_le d x j
              have hcel : wr.cell? ⟨bx, 0, none⟩ = some (.int .i64 x) := (hnx.cell (p := ⟨bx, 0, none⟩) hbx1).trans Hcx.out
              have hcl := Hcl.out 0 (d j) wr hcel
              have hFw : F * wgt d x j ≤ F * 6 := Nat.mul_le_mul_left _ (by omega)
              have hFr : F * (j - wgt d x j) ≤ F * 6 := Nat.mul_le_mul_left _ (by omega)
              have hMl : M ≤ 30000000000 := by have := hM.out; omega
              have hrl : r ≤ 30000000000 := by have := hr.out; omega
              clear hFw hFr hcel
              by_cases hx : d j = x
              · have hbq : (d j == x) = true := by simpa using hx
                rw [hbq] at hcl
                have Hclw := Lib.hid hcl; clear hcl hbq
                have hw1 := Lib.hid (wgt_hit hx)
                have Hx := Lib.hid hx; clear hx
                have hr2 : Hid (r = F * (j + 1 - wgt d x (j + 1))) := by show r = _; rw [hw1.out, hr.out]; congr 1; omega
                have hM2 : Hid (M + F = 6 * C + F * wgt d x (j + 1)) := by show M + F = _; rw [hw1.out, hM.out, Nat.mul_add, Nat.mul_one, Nat.add_assoc]
                go_wp2_with fail
                refine Hclw.out.mono ?_
                rintro e w3 ⟨rfl, hb3⟩
                have hg3 := grown_none hb3
                have hrg3 := hrg2.kept hg3 (by simp) (by simp)
                have hmn3 := hmn.kept hg3 (by simp)
                have hnx3 := hnx.trans (hb3.mono hnx.size)
                clear hg3
                go_wp2_with fail
                go_roundw
                case rel => exact ⟨j + 1, kn, cnt2, M + F, r, Dn, by omega, by go_num, hrg3, hc2, hmn3, by omega, honn, hrdn, hr2, by go_num, hM2, hnx3⟩
                case measure => simp [intOf]; omega
              · have hbq : (d j == x) = false := by simpa using hx
                rw [hbq] at hcl
                have Hclw := Lib.hid hcl; clear hcl hbq
                have hw1 := Lib.hid (wgt_miss hx)
                have Hx := Lib.hid hx; clear hx
                have hr2 : Hid (r + F = F * (j + 1 - wgt d x (j + 1))) := by
                  show r + F = _
                  rw [hw1.out, hr.out, show j + 1 - wgt d x j = (j - wgt d x j) + 1 by omega, Nat.mul_add, Nat.mul_one]
                have hM2 : Hid (M = 6 * C + F * wgt d x (j + 1)) := by show M = _; rw [hw1.out, hM.out]
                go_wp2_with fail
                refine Hclw.out.mono ?_
                rintro e w3 ⟨rfl, hb3⟩
                have hg3 := grown_none hb3
                have hrg3 := hrg2.kept hg3 (by simp) (by simp)
                have hmn3 := hmn.kept hg3 (by simp)
                have hnx3 := hnx.trans (hb3.mono hnx.size)
                clear hg3
                go_wp2_with (first
                  | (at_lookup; refine wpList_lookup_own_int _ rfl _ _ 79 rfl 3 3 .i64 intK Try.underlying79 Try.underlying3 (zeroE _) W2.heap.size kn Dn rfl hmn3 _ k0 rfl (Go.Maps.keyOf_int_mk Try.underlying3 (by decide)) ?_; intro c2 hat2 hwc2; obtain rfl := reads_int hrdn hat2)
                  | (at_mapUpdate; refine wpList_mapUpdate_own _ rfl _ _ _ 79 rfl 3 3 intK Try.underlying79 _ W2.heap.size kn Dn rfl hmn3 (by unfold maxLen; omega) _ _ k0 rfl rfl (Go.Maps.keyOf_int_mk Try.underlying3 (by decide)) _ [] (plainElem_int Try.underlying3 (WalkArith.wf_i64 (by omega))) ?_; intro w4 hmn4 hg4; go_frame)
                  | go_in)
                have hrg4 := hrg3.kept hg4 (fun e => by have := Option.some.inj e; omega) (fun e => by have := Option.some.inj e; omega)
                have hnx4 := hnx3.grown hg4 (by have := hnx3.size; omega) (fun k e => by cases e; omega)
                have hrd4 := reads_put hmn3.isMap (r + F)
                rw [Int.natCast_add] at hrd4
                have hon4 := put_only honn (.lit (.int .i64 ((r : Int) + (F : Int))))
                go_wp2_with fail
                go_roundw
                case rel => exact ⟨j + 1, kn + 1, cnt2, M, r + F, _, by omega, by go_num, hrg4, hc2, hmn4, by omega, hon4, hrd4, hr2, rfl, hM2, hnx4⟩
                case measure => simp [intOf]; omega
            · obtain rfl : j = 6 := by omega
              have hr2 : Hid (r = F * q) := by show r = _; rw [hr.out, ← Hq.out]
              have hM2 : Hid (M = 6 * C + F * v) := by show M = _; rw [hM.out, ← Hv.out]
              go_wp2_with fail
              go_roundw
              case rel =>
                refine ⟨_, cnt2, kn, M, r, Dn, hrg2, hmn, fun h => absurd h (by rw [k0_same]; decide), hkn, honn, hrdn, ?_, rfl, ?_, fun kl h => hL kl (by cases hh : left kl; (simp [hh] at h); rfl), hnx⟩
                · show r = if (left k0 && !k0.sameKey (.int .i64 0)) = true then 0 else F * q
                  rw [k0_same, if_neg (by decide), hr2.out]
                · show M = 6 * C + if (left k0 && !k0.sameKey (.int .i64 0)) = true then 0 else F * v
                  rw [k0_same, if_neg (by decide), hM2.out]
              case measure => rw [hrg2.left_eq, hrg.left_eq]; omega
    · obtain rfl : i = n := by omega
      have hit : decide ((i : Int) < (i : Int)) = false := decide_eq_false (by omega)
      go_wp2_with fail
      refine (Ho.out _).mono ?_
      rintro e w3 ⟨rfl, hw3⟩
      have hw3 := hw3.symm
      subst hw3
      go_wp2_with fail
      refine (Hcut.out _).mono ?_
      rintro e w4 ⟨rfl, hb4⟩
      have hRX := (HR.out.below (HR.out.lt) hnx).up hb4
      have hB4 := nx (HB.out.trans (hnx.mono HB.out.size)) hb4
      have c0 := hRX.cell 0 (by omega)
      have c1 := hRX.cell 1 (by omega)
      have z0 := hRX.free 0
      have z1 := hRX.free 1
      go_wp2_with fail
      refine ret_cell_tmp (b := w.heap.size + 1) (n := 2) (f := fr ((num (cc q v i) (6 ^ i) : Nat) : Int) ((den (cc q v i) (6 ^ i) : Nat) : Int)) Try.results60 rfl rfl Try.underlying29 (by kernel_rfl) (fin2' hRX _ _) rfl ⟨rfl, ?_⟩
      exact (hB4.setCell (p := ⟨w.heap.size + 1, 0, none⟩) (Nat.le_succ _) _).setCell (p := ⟨w.heap.size + 1, 1, none⟩) (Nat.le_succ _) _


end ChW
end Go.Proofs.Ytdodokeebmdceaa
