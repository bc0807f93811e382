/-
  BurstTable of the program.
-/
import Derived.Test.YtdodokeebmdceaaRows
import Derived.Test.YtdodokeebmdceaaArr
import Derived.Test.YtdodokeebmdceaaAnyR
import Derived.Test.YtdodokeebmdceaaDieW
import Derived.Test.YtdodokeebmdceaaSortW
import Derived.Test.YtdodokeebmdceaaFracW
import Derived.Test.YtdodokeebmdceaaFracL
import Derived.Test.YtdodokeebmdceaaCutW
import Derived.Test.YtdodokeebmdceaaAll6
import Derived.Test.YtdodokeebmdceaaAllL
import Derived.Test.YtdodokeebmdceaaOwnL
import Derived.Test.YtdodokeebmdceaaFracM
import Derived.Test.YtdodokeebmdceaaWgtM
import Derived.Test.YtdodokeebmdceaaWgtW
import Derived.Test.YtdodokeebmdceaaWaitW
import Derived.Test.YtdodokeebmdceaaBig121
import Derived.Test.YtdodokeebmdceaaOpenD
import Derived.WalkKit
import Derived.WalkLawsBesides
import Derived.WalkSpells
import Derived.ProofKit
import Derived.OpenShut
import Derived.Deep.RegionWith
import Derived.Deep.QuietTactic
import Derived.BigQuiet
namespace Go.Proofs.Ytdodokeebmdceaa
open Go.ChangeShapes Go.WideShapes Go.ChangeAt Go.RowKit
open Go.ChangeMaps (open_string shut_string)

namespace BurI
open Dice Arr DieW SortW FracW CutW All6 AllL OwnL FracM WgtM WgtW WaitW Big121


/-- What BurstTable answers. -/
def okT (d : Nat → Int) (n : Int) : Bool := isDie d && decide (0 ≤ n ∧ n ≤ 3)
def bT (d : Nat → Int) (n : Int) : Nat → Int := if okT d n then fun x => (tb (face d) (wgt d (d 5) 6) n.toNat (6 * (n.toNat + 1)) x : Nat) else fun _ => 0
theorem wone {p : Nat} (hp : p ≤ 1000000000000000) : IntKind.i64.wrap (p : Int) = (p : Int) ∧ wrap64 (p : Int) = (p : Int) := by
  constructor
  · exact FracL.wrap_sameL _ (by omega) (by omega)
  · unfold wrap64; omega
theorem wadd {a b p : Nat} (h : a + b = p) (hp : p ≤ 1000000000000000) : IntKind.i64.wrap ((a : Int) + (b : Int)) = (p : Int) ∧ wrap64 ((a : Int) + (b : Int)) = (p : Int) := by
  rw [← Int.natCast_add, h]
  exact wone hp
theorem t_no {d : Nat → Int} {n : Int} (h : okT d n = false) : bT d n = fun _ => 0 := by simp [bT, h]
theorem t_yes {d : Nat → Int} {n : Nat} (h : okT d n = true) : bT d n = fun x => ((tb (face d) (wgt d (d 5) 6) n (6 * (n + 1)) x : Nat) : Int) := by simp [bT, h]
theorem t_1 {d : Nat → Int} {n : Int} (h : isDie d = false) : okT d n = false := by simp [okT, h]
theorem t_2 {d : Nat → Int} {n : Int} (h : n < 0) : okT d n = false := by simp [okT]; intros; omega
theorem t_3 {d : Nat → Int} {n : Int} (h : 3 < n) : okT d n = false := by simp [okT]; intros; omega
theorem t_4 {d : Nat → Int} {n : Int} (hd : isDie d = true) (h : 0 ≤ n ∧ n ≤ 3) : okT d n = true := by simp [okT, hd, h]
theorem t_5 {d : Nat → Int} {n : Int} (h : ¬ (0 ≤ n ∧ n ≤ 3)) : okT d n = false := by simp only [okT, decide_eq_false h, Bool.and_false]

set_option maxRecDepth 100000 in
set_option maxHeartbeats 8000000 in
theorem implBT_any (d : Nat → Int) (n : Int) (w : World) :
    Calls Try.prog 17 #[dv d, .int .i64 n] w fun e w' => e = .returned (.tuple #[tv (bT d n), .bool (okT d n)]) ∧ Below w.heap.size w w' := by
  have hc := fun w => implIsDie_any d w
  unfold dv at hc
  have Hc := Lib.hid hc; clear hc
  cases hr : isDie d
  · rw [hr] at Hc
    rw [t_1 hr, t_no (t_1 hr)]
    clear hr
    unfold dv
    have hB0 := na (na (na (n0 w) (sixO d 22)) (.cells Try.zeroCells23 23)) (.cells Try.zeroCells23 23)
    have hD0 := ((At.new6 w d 22 rfl).past (.cells Try.zeroCells23 23)).past (.cells Try.zeroCells23 23)
    have hR0 := (fresh (w.alloc (sixO d 22)) (b := w.heap.size + 1) (by rw [size_alloc])).past (.cells Try.zeroCells23 23)
    have hT0 := fresh ((w.alloc (sixO d 22)).alloc (.cells Try.zeroCells23 23)) (b := w.heap.size + 2) (by rw [size_alloc, size_alloc])
    obtain ⟨e0, e1, e2, e3, e4, e5⟩ := hD0.six
    go_enter Try.func17, Try.ntmps17
    go_wp2_with fail
    refine (Hc.out _).mono ?_
    rintro e w1 ⟨rfl, hb1⟩
    have hB := nx hB0 hb1
    have hD := hD0.up hb1
    have hR := hR0.up hb1
    have hT := hT0.up hb1
    clear hB0 hD0 hR0 hT0 hb1 e0 e1 e2 e3 e4 e5
    go_wp2_with (first | refine ld rfl _ rfl rfl (by assumption) ?_ | refine st rfl _ _ rfl rfl rfl (by assumption) ?_ | refine b0 rfl rfl ?_)
    refine ret_cell_tmp (b := w.heap.size + 1) (n := 121) (f := fun _ => 0) Try.results17 rfl rfl Try.underlying23 size_run (hR.stored (fun _ => 0)) rfl ⟨rfl, ?_⟩
    exact hB.trans (setCells_below (w := w1) (p := w.heap.size + 1) (B := w.heap.size) (by omega) (vals 121 (fun _ => 0)) 0)
  rw [hr] at Hc
  by_cases hn0 : n < 0
  · rw [t_2 hn0, t_no (t_2 hn0)]
    have hg : decide (n < 0) = true := decide_eq_true hn0
    clear hr
    unfold dv
    have hB0 := na (na (na (n0 w) (sixO d 22)) (.cells Try.zeroCells23 23)) (.cells Try.zeroCells23 23)
    have hD0 := ((At.new6 w d 22 rfl).past (.cells Try.zeroCells23 23)).past (.cells Try.zeroCells23 23)
    have hR0 := (fresh (w.alloc (sixO d 22)) (b := w.heap.size + 1) (by rw [size_alloc])).past (.cells Try.zeroCells23 23)
    have hT0 := fresh ((w.alloc (sixO d 22)).alloc (.cells Try.zeroCells23 23)) (b := w.heap.size + 2) (by rw [size_alloc, size_alloc])
    obtain ⟨e0, e1, e2, e3, e4, e5⟩ := hD0.six
    go_enter Try.func17, Try.ntmps17
    go_wp2_with fail
    refine (Hc.out _).mono ?_
    rintro e w1 ⟨rfl, hb1⟩
    have hB := nx hB0 hb1
    have hD := hD0.up hb1
    have hR := hR0.up hb1
    have hT := hT0.up hb1
    clear hB0 hD0 hR0 hT0 hb1 e0 e1 e2 e3 e4 e5
    go_wp2_with (first | refine ld rfl _ rfl rfl (by assumption) ?_ | refine st rfl _ _ rfl rfl rfl (by assumption) ?_ | refine b0 rfl rfl ?_)
    refine ret_cell_tmp (b := w.heap.size + 1) (n := 121) (f := fun _ => 0) Try.results17 rfl rfl Try.underlying23 size_run (hR.stored (fun _ => 0)) rfl ⟨rfl, ?_⟩
    exact hB.trans (setCells_below (w := w1) (p := w.heap.size + 1) (B := w.heap.size) (by omega) (vals 121 (fun _ => 0)) 0)
  have hg : decide (n < 0) = false := decide_eq_false hn0
  by_cases hn3 : 3 < n
  · rw [t_3 hn3, t_no (t_3 hn3)]
    have hg3 : decide (3 < n) = true := decide_eq_true hn3
    clear hr hn0
    unfold dv
    have hB0 := na (na (na (n0 w) (sixO d 22)) (.cells Try.zeroCells23 23)) (.cells Try.zeroCells23 23)
    have hD0 := ((At.new6 w d 22 rfl).past (.cells Try.zeroCells23 23)).past (.cells Try.zeroCells23 23)
    have hR0 := (fresh (w.alloc (sixO d 22)) (b := w.heap.size + 1) (by rw [size_alloc])).past (.cells Try.zeroCells23 23)
    have hT0 := fresh ((w.alloc (sixO d 22)).alloc (.cells Try.zeroCells23 23)) (b := w.heap.size + 2) (by rw [size_alloc, size_alloc])
    obtain ⟨e0, e1, e2, e3, e4, e5⟩ := hD0.six
    go_enter Try.func17, Try.ntmps17
    go_wp2_with fail
    refine (Hc.out _).mono ?_
    rintro e w1 ⟨rfl, hb1⟩
    have hB := nx hB0 hb1
    have hD := hD0.up hb1
    have hR := hR0.up hb1
    have hT := hT0.up hb1
    clear hB0 hD0 hR0 hT0 hb1 e0 e1 e2 e3 e4 e5
    go_wp2_with (first | refine ld rfl _ rfl rfl (by assumption) ?_ | refine st rfl _ _ rfl rfl rfl (by assumption) ?_ | refine b0 rfl rfl ?_)
    refine ret_cell_tmp (b := w.heap.size + 1) (n := 121) (f := fun _ => 0) Try.results17 rfl rfl Try.underlying23 size_run (hR.stored (fun _ => 0)) rfl ⟨rfl, ?_⟩
    exact hB.trans (setCells_below (w := w1) (p := w.heap.size + 1) (B := w.heap.size) (by omega) (vals 121 (fun _ => 0)) 0)
  have hg3 : decide (3 < n) = false := decide_eq_false hn3
  have hok := t_4 hr (show 0 ≤ n ∧ n ≤ 3 by omega)
  obtain ⟨n, rfl⟩ : ∃ m : Nat, n = m := ⟨n.toNat, by omega⟩
  rw [hok, t_yes hok]
  have hF := faces_die hr
  have hWl := wgt_le d (d 5) 6
  have hgr := fun w => greatest_any d w
  have hw := fun w => implW_any d (d 5) w
  rw [show d 5 = (face d 5 : Int) from (hF 5 (by omega)).1] at hgr
  have hw' : ∀ w, Calls Try.prog 53 #[dv d, .int .i64 (face d 5 : Nat)] w fun e w' => e = .returned (.int .i64 (wgt d (d 5) 6 : Nat)) ∧ Below w.heap.size w w' := by
    intro w
    have := hw w
    rw [show (Value.int .i64 (d 5)) = .int .i64 (face d 5 : Nat) from by rw [(hF 5 (by omega)).1]] at this
    exact this
  clear hw
  unfold dv at hgr hw'
  have Hgr := Lib.hid hgr; clear hgr
  have Hw := Lib.hid hw'; clear hw'
  have Ho := Lib.hid (fun (m : Nat) (h : m ≤ 16) w => outcomesL m w h)
  have hix0 := fun (w : World) (k : Nat) (hk : k < 6) => run_index_vals (P := Try.prog) w 22 3 6 Try.underlying22 Try.underlying3 Try.sizeOf3 d hk
  simp only [← dv_vals] at hix0
  unfold dv at hix0
  have Hix := Lib.hid hix0; clear hix0
  have HF := Lib.hid hF
  have hf5 := (hF 5 (by omega)).2.2
  have Htb := Lib.hid (fun m x (h : m ≤ 6 * (n + 1)) => tb_le (f := face d) (n := n) hWl (by omega) m x h)
  have Hpl := Lib.hid (fun i (hi : i ≤ n) => part_le (W := wgt d (d 5) 6) (n := n) hWl hi (by omega))
  generalize wgt d (d 5) 6 = Wt at *
  have HG : Hid (face d 5 = face d 5) := rfl
  clear hF hok hr
  have hn3' : n ≤ 3 := by omega
  unfold dv
  have hB0 := na (na (na (n0 w) (sixO d 22)) (.cells Try.zeroCells23 23)) (.cells Try.zeroCells23 23)
  have hD0 := ((At.new6 w d 22 rfl).past (.cells Try.zeroCells23 23)).past (.cells Try.zeroCells23 23)
  have hR0 := (fresh (w.alloc (sixO d 22)) (b := w.heap.size + 1) (by rw [size_alloc])).past (.cells Try.zeroCells23 23)
  have hT0 := fresh ((w.alloc (sixO d 22)).alloc (.cells Try.zeroCells23 23)) (b := w.heap.size + 2) (by rw [size_alloc, size_alloc])
  obtain ⟨e0, e1, e2, e3, e4, e5⟩ := hD0.six
  go_enter Try.func17, Try.ntmps17
  go_wp2_with fail
  refine (Hc.out _).mono ?_
  rintro e w1 ⟨rfl, hb1⟩
  have hB := nx hB0 hb1
  have hD := hD0.up hb1
  have hR := hR0.up hb1
  have hT := hT0.up hb1
  clear hB0 hD0 hR0 hT0 hb1 e0 e1 e2 e3 e4 e5
  obtain ⟨e0, e1, e2, e3, e4, e5⟩ := hD.six
  go_wp2_with fail
  refine (Hgr.out _).mono ?_
  rintro e w2 ⟨rfl, hb2⟩
  have hB := nx hB hb2
  have hD := hD.up hb2
  have hR := hR.up hb2
  have hT := hT.up hb2
  clear hb2 e0 e1 e2 e3 e4 e5
  go_wp2_with fail
  go_loopw [8, 9, 10] (fun sv vv lv wr => ∃ i l S V : Nat, i + l = n ∧ lv = .int .i64 l ∧ sv = .int .i64 S ∧ vv = .int .i64 V ∧ Hid (S = i * face d 5) ∧ Hid (V = Wt ^ i) ∧ S ≤ 30 * i ∧ At wr (w.heap.size + 2) 121 (fun x => ((tb (face d) Wt n (6 * i) x : Nat) : Int)) ∧ At wr w.heap.size 6 d ∧ At wr (w.heap.size + 1) 121 (fun _ => 0) ∧ Below w.heap.size w wr) (fun _ _ lv _ => (intOf lv).toNat)
  case atStart => exact ⟨0, n, 0, 1, by omega, rfl, rfl, rfl, by show 0 = 0 * _; omega, rfl, by omega, hT.congr fun x _ => rfl, hD, hR, hB⟩
  case round =>
    clear hT hD hR hB
    obtain ⟨i, l, S, V, hil, rfl, rfl, rfl, hS, hV, hS30, hT, hD, hR, hB⟩ := hrel
    by_cases hlt : 0 < l
    · have hit : decide (0 < (l : Int)) = true := decide_eq_true (by omega)
      have hitN : decide (0 < l) = true := decide_eq_true hlt
      obtain ⟨e0, e1, e2, e3, e4, e5⟩ := hD.six
      go_wp2_with fail
      clear e0 e1 e2 e3 e4 e5
      go_loopw [35] (fun jv wr => ∃ j : Nat, j ≤ 6 ∧ jv = .int .i64 j ∧ At wr (w.heap.size + 2) 121 (fun x => ((tb (face d) Wt n (6 * i + j) x : Nat) : Int)) ∧ At wr w.heap.size 6 d ∧ At wr (w.heap.size + 1) 121 (fun _ => 0) ∧ Below w.heap.size w wr) (fun jv _ => 6 - (intOf jv).toNat)
      case atStart => exact ⟨0, by omega, rfl, hT, hD, hR, hB⟩
      case round =>
        clear hT hD hR hB
        obtain ⟨j, hj, rfl, hT, hD, hR, hB⟩ := hrel
        by_cases hj6 : j < 6
        · have hix := fun w => Hix.out w j hj6
          obtain ⟨hfj, hf1, hf30⟩ := HF.out j hj6
          by_cases hfg : face d j < face d 5
          · have hdc : decide (d j < (face d 5 : Int)) = true := decide_eq_true (by omega)
            have hst := tb_add (f := face d) (W := Wt) (n := n) (i := i) hj6 (fun h => absurd h.1 (by omega))
            rw [← hS.out, ← hV.out, show n - i = l by omega] at hst
            have hpl := Hpl.out i (by omega)
            rw [← hV.out, show n - i = l by omega] at hpl
            have ho := Ho.out l (by omega)
            rw [show all6 l = 6 ^ l from rfl] at ho
            have ht := Htb.out (6 * i + j) (S + face d j) (by omega)
            have ct := hT.drew.cell (S + face d j) (by omega)
            have zt := hT.drew.free (S + face d j)
            have Hst := Lib.hid (put_tb hst); clear hst
            have HT := Lib.hid hT.drew
            have HD := Lib.hid hD.drew
            have HR := Lib.hid hR.drew
            have HB := Lib.hid hB.drew
            obtain ⟨p, hp⟩ : ∃ p, p = V * 6 ^ l := ⟨_, rfl⟩
            have hpm : (V : Int) * ((6 ^ l : Nat) : Int) = (p : Int) := by rw [hp]; push_cast; rfl
            rw [← hp] at hpl Hst
            have Hp := Lib.hid hp; clear hp
            have wp1 : IntKind.i64.wrap (p : Int) = (p : Int) := FracL.wrap_sameL _ (by omega) (by omega)
            generalize ((6 ^ l : Nat) : Int) = O at *
            have Ho' := Lib.hid ho; clear ho
            have hw : wrap64 ((S : Int) + d j) = (S : Int) + d j := by unfold wrap64; omega
            have hjn : ((S : Int) + d j).toNat = S + face d j := by omega
            have hjlt : (S : Int) + d j < 121 := by omega
            have hj0 : 0 ≤ (S : Int) + d j := by omega
            have hxl : S + face d j < 121 := by omega
            generalize htv : tb (face d) Wt n (6 * i + j) (S + face d j) = tv0 at *
            generalize hq : face d j = fj at *
            clear hT hD hR hB hq
            have hw2 : IntKind.i64.wrap ((S : Int) + d j) = (S : Int) + d j := FracL.wrap_sameL _ hj0 (by omega)
            have Hfj := Lib.hid hfj; clear hfj
            go_wp2_with fail
            go_region_with (go_at_call 52; refine (Ho'.out _).mono ?_; rintro e w3 ⟨rfl, hw3⟩; have hw3 := hw3.symm; subst hw3)
            all_goals
              go_wp2_with fail
              go_roundw
              case rel => exact ⟨j + 1, by omega, by go_num, (HT.out.set hxl _).congr fun x _ => Hst.out x, HD.out.other (by omega) _ _, HR.out.other (by omega) _ _, HB.out.setCell (p := ⟨w.heap.size + 2, S + fj, none⟩) (by show w.heap.size ≤ w.heap.size + 2; omega) _⟩
              case measure => simp [intOf]; omega
          · have hdc : decide (d j < (face d 5 : Int)) = false := decide_eq_false (by omega)
            have Hst := Lib.hid (tb_stay (f := face d) (W := Wt) (n := n) (i := i) hj6 ⟨by omega, by omega⟩)
            generalize face d j = fj at *
            clear hfj
            go_wp2_with fail
            go_roundw
            case rel => exact ⟨j + 1, by omega, by go_num, hT.congr fun x _ => congrArg Int.ofNat (Hst.out x).symm, hD, hR, hB⟩
            case measure => simp [intOf]; omega
        · obtain rfl : j = 6 := by omega
          obtain ⟨e0, e1, e2, e3, e4, e5⟩ := hD.six
          have hVs : Hid (V * Wt = Wt ^ (i + 1)) := by show V * Wt = _; rw [Nat.pow_succ, ← hV.out]
          have hSs : Hid (S + face d 5 = (i + 1) * face d 5) := by show S + face d 5 = _; rw [Nat.add_mul, ← hS.out, Nat.one_mul]
          have hVb : V ≤ 216 := by
            have h1 := Hpl.out i (by omega)
            have h3 : 1 ≤ 6 ^ (n - i) := Nat.one_le_pow _ _ (by omega)
            have h4 := Nat.le_trans (Nat.le_mul_of_pos_right (Wt ^ i) h3) h1
            rw [← hV.out] at h4
            exact h4
          have hVm : V * Wt ≤ 216 * 6 := Nat.mul_le_mul hVb (by omega)
          obtain ⟨V', hV'⟩ : ∃ v, v = V * Wt := ⟨_, rfl⟩
          have hpm : (V : Int) * (Wt : Int) = (V' : Int) := by rw [hV']; push_cast; rfl
          rw [← hV'] at hVs hVm
          have HV' := Lib.hid hV'; clear hV'
          go_wp2_with fail
          refine (Hw.out _).mono ?_
          rintro e w4 ⟨rfl, hb4⟩
          have hB4 := nx hB hb4
          have hD4 := hD.up hb4
          have hR4 := hR.up hb4
          have hT4 := hT.up hb4
          clear hB hD hR hT hb4 e0 e1 e2 e3 e4 e5
          go_wp2_with fail
          go_roundw
          case rel => exact ⟨i + 1, l - 1, S + face d 5, V', by omega, by go_num, by go_num, by go_num, hSs, hVs, by omega, hT4, hD4, hR4, hB4⟩
          case measure => simp [intOf]; omega
    · obtain rfl : l = 0 := by omega
      obtain rfl : i = n := by omega
      obtain ⟨e0, e1, e2, e3, e4, e5⟩ := hD.six
      have hVb : V ≤ 216 := by
        have h1 := Hpl.out i (by omega)
        rw [← hV.out, Nat.sub_self, Nat.pow_zero, Nat.mul_one] at h1
        exact h1
      go_wp2_with fail
      clear e0 e1 e2 e3 e4 e5
      go_loopw [62] (fun jv wr => ∃ j : Nat, j ≤ 6 ∧ jv = .int .i64 j ∧ At wr (w.heap.size + 2) 121 (fun x => ((tb (face d) Wt i (6 * i + j) x : Nat) : Int)) ∧ At wr w.heap.size 6 d ∧ At wr (w.heap.size + 1) 121 (fun _ => 0) ∧ Below w.heap.size w wr) (fun jv _ => 6 - (intOf jv).toNat)
      case atStart => exact ⟨0, by omega, rfl, hT, hD, hR, hB⟩
      case round =>
        clear hT hD hR hB
        obtain ⟨j, hj, rfl, hT, hD, hR, hB⟩ := hrel
        by_cases hj6 : j < 6
        · have hix := fun w => Hix.out w j hj6
          obtain ⟨hfj, hf1, hf30⟩ := HF.out j hj6
          rw [hfj] at hix
          have hst := tb_add (f := face d) (W := Wt) (n := i) (i := i) hj6 (fun h => absurd h.2 (by omega))
          rw [← hS.out, ← hV.out, Nat.sub_self, Nat.pow_zero, Nat.mul_one] at hst
          have ht := Htb.out (6 * i + j) (S + face d j) (by omega)
          have ct := hT.cell (S + face d j) (by omega)
          have zt := hT.free (S + face d j)
          have Hst := Lib.hid (put_tb hst); clear hst
          generalize hq : face d j = fj at *
          have hjn : ((S : Int) + (fj : Int)).toNat = S + fj := by omega
          have hjlt : (S : Int) + (fj : Int) < 121 := by omega
          generalize htv : tb (face d) Wt i (6 * i + j) (S + fj) = tv0 at *
          clear hfj hq
          go_wp2_with fail
          go_roundw
          case rel => exact ⟨j + 1, by omega, by go_num, (hT.set (by omega) _).congr fun x _ => Hst.out x, hD.other (by omega) _ _, hR.other (by omega) _ _, hB.setCell (p := ⟨w.heap.size + 2, S + fj, none⟩) (by show w.heap.size ≤ w.heap.size + 2; omega) _⟩
          case measure => simp [intOf]; omega
        · obtain rfl : j = 6 := by omega
          go_wp2_with (first | refine ld rfl _ rfl rfl (by assumption) ?_ | refine st rfl _ _ rfl rfl rfl (by assumption) ?_ | refine b0 rfl rfl ?_)
          refine ret_cell_tmp (b := w.heap.size + 1) (n := 121) (f := fun x => ((tb (face d) Wt i (6 * (i + 1)) x : Nat) : Int)) Try.results17 rfl rfl Try.underlying23 size_run (hR.stored (fun x => ((tb (face d) Wt i (6 * (i + 1)) x : Nat) : Int))) rfl ⟨rfl, ?_⟩
          exact hB.trans (setCells_below (w := wr) (p := w.heap.size + 1) (B := w.heap.size) (by omega) (vals 121 (fun x => ((tb (face d) Wt i (6 * (i + 1)) x : Nat) : Int))) 0)


end BurI
end Go.Proofs.Ytdodokeebmdceaa
