/-
  LandChance, both sides.
-/
import Derived.Test.YtcffglnfdnanhaaRows
import Derived.Test.YtcffglnfdnanhaaArr
import Derived.Test.YtcffglnfdnanhaaAnyR
import Derived.Test.YtcffglnfdnanhaaDieW
import Derived.Test.YtcffglnfdnanhaaSortW
import Derived.Test.YtcffglnfdnanhaaFracW
import Derived.Test.YtcffglnfdnanhaaFracL
import Derived.Test.YtcffglnfdnanhaaCutW
import Derived.Test.YtcffglnfdnanhaaAll6
import Derived.Test.YtcffglnfdnanhaaAllL
import Derived.Test.YtcffglnfdnanhaaOwnL
import Derived.Test.YtcffglnfdnanhaaFracM
import Derived.Test.YtcffglnfdnanhaaStopM
import Derived.Test.YtcffglnfdnanhaaRunM
import Derived.Test.YtcffglnfdnanhaaRunI
import Derived.Test.YtcffglnfdnanhaaRunS
import Derived.Test.YtcffglnfdnanhaaRunW
import Derived.Test.YtcffglnfdnanhaaHoldM
import Derived.Test.YtcffglnfdnanhaaBig40
import Derived.Test.YtcffglnfdnanhaaHoldI
import Derived.Test.YtcffglnfdnanhaaLandM
import Derived.Test.YtcffglnfdnanhaaRunW
import Derived.Test.YtcffglnfdnanhaaRunS
import Derived.Test.YtcffglnfdnanhaaOpenD
import Derived.WalkKit
import Derived.OwnWalk
import Derived.Lib.AppendZeros
import Derived.WalkLawsBesides
import Derived.WalkSpells
import Derived.ProofKit
import Derived.OpenShut
import Derived.Deep.RegionWith
import Derived.Deep.QuietTactic
import Derived.BigQuiet
namespace Go.Proofs.Ytcffglnfdnanhaa
open Go.ChangeShapes Go.WideShapes Go.ChangeAt Go.RowKit
open Go.ChangeMaps (open_string shut_string)

namespace Lands
open Dice Arr DieW SortW FracW CutW All6 AllL OwnL FracM StopM RunM RunI RunS RunW HoldM HoldI LandM

def okL (d : Nat → Int) (n : Int) : Bool := isRun d && decide (0 ≤ n ∧ n ≤ 8)
theorem okL_1 {d : Nat → Int} {n : Int} (x : isRun d = false) : okL d n = false := by simp only [okL, x, Bool.false_and]
theorem okL_2 {d : Nat → Int} {n : Int} (x : ¬ (0 ≤ n ∧ n ≤ 8)) : okL d n = false := by simp only [okL, decide_eq_false x, Bool.and_false]
theorem okL_yes {d : Nat → Int} {n : Int} (x : isRun d = true) (y : 0 ≤ n ∧ n ≤ 8) : okL d n = true := by simp only [okL, x, decide_eq_true y, Bool.and_true]
def landx (d : Nat → Int) (n : Int) : Int := if okL d n then (num (pp (face d) n.toNat) (6 ^ n.toNat) : Nat) else 0
def landy (d : Nat → Int) (n : Int) : Int := if okL d n then (den (pp (face d) n.toNat) (6 ^ n.toNat) : Nat) else 0
theorem land_no {d : Nat → Int} {n : Int} (x : okL d n = false) : landx d n = 0 ∧ landy d n = 0 := by simp [landx, landy, x]
theorem land_yes {d : Nat → Int} {n : Nat} (x : okL d n = true) : landx d n = (num (pp (face d) n) (6 ^ n) : Nat) ∧ landy d n = (den (pp (face d) n) (6 ^ n) : Nat) := by
  simp [landx, landy, x]
theorem pq_small {f : Nat → Nat} (hfp : ∀ j, j < 6 → 1 ≤ f j) {t i : Nat} (ht : t ≤ 9) (hi : i ≤ 6) : pq f (pp f) t i ≤ 10077696 :=
  Nat.le_trans (pq_le hfp (fun s _ => pp_le hfp s) i hi) (Nat.mul_le_mul hi (pow_six (show t - 1 ≤ 8 by omega)).1)
theorem ppF_snoc (f : Nat → Nat) (n : Nat) : vals (n + 1) (fun t => (pp f t : Int)) ++ [.int .i64 (pp f (n + 1) : Nat)] = vals (n + 1 + 1) (fun t => (pp f t : Int)) := vals_snoc (n + 1) _

set_option maxRecDepth 100000 in
set_option maxHeartbeats 8000000 in
theorem implLand_any (d : Nat → Int) (n : Int) (w : World) :
    Calls Try.prog 25 #[dv d, .int .i64 n] w fun e w' => e = .returned (.tuple #[v2 (landx d n) (landy d n), .bool (okL d n)]) ∧ Below w.heap.size w w' := by
  have hc := fun w => implRunner_any d w
  unfold dv at hc
  have Hc := Lib.hid hc; clear hc
  cases hr : isRun d
  · rw [hr] at Hc
    have hno : okL d n = false := okL_1 hr
    rw [hno, (land_no hno).1, (land_no hno).2]
    clear hr hno
    unfold dv
    have hB := na (na (n0 w) (sixO d 22)) (.cells #[.int .i64 0, .int .i64 0] 30)
    have hD := (At.new6 w d 22 rfl).past (.cells #[.int .i64 0, .int .i64 0] 30)
    have hRX := At.new2 (w.alloc (sixO d 22)) 30
    rw [size_alloc] at hRX
    obtain ⟨e0, e1, e2, e3, e4, e5⟩ := hD.six
    go_enter Try.func25, Try.ntmps25
    go_wp2_with fail
    refine (Hc.out _).mono ?_
    rintro e w1 ⟨rfl, hb1⟩
    have hD := hD.up hb1
    have hRX := hRX.up hb1
    have hB := nx hB hb1
    clear hb1
    clear e0 e1 e2 e3 e4 e5
    have c0 := hRX.cell 0 (by omega)
    have c1 := hRX.cell 1 (by omega)
    have z0 := hRX.free 0
    have z1 := hRX.free 1
    go_wp2_with fail
    refine ret_cell_tmp (b := w.heap.size + 1) (n := 2) (f := fr 0 0) Try.results25 rfl rfl Try.underlying30 (by kernel_rfl) (fin2' hRX _ _) rfl ⟨rfl, ?_⟩
    exact (hB.setCell (p := ⟨w.heap.size + 1, 0, none⟩) (Nat.le_succ _) _).setCell (p := ⟨w.heap.size + 1, 1, none⟩) (Nat.le_succ _) _
  · rw [hr] at Hc
    by_cases h0 : n < 0
    · have hno : okL d n = false := okL_2 (by omega)
      have g1 : decide (n < 0) = true := decide_eq_true h0
      rw [hno, (land_no hno).1, (land_no hno).2]
      clear hr hno
      unfold dv
      have hB := na (na (n0 w) (sixO d 22)) (.cells #[.int .i64 0, .int .i64 0] 30)
      have hD := (At.new6 w d 22 rfl).past (.cells #[.int .i64 0, .int .i64 0] 30)
      have hRX := At.new2 (w.alloc (sixO d 22)) 30
      rw [size_alloc] at hRX
      obtain ⟨e0, e1, e2, e3, e4, e5⟩ := hD.six
      go_enter Try.func25, Try.ntmps25
      go_wp2_with fail
      refine (Hc.out _).mono ?_
      rintro e w1 ⟨rfl, hb1⟩
      have hD := hD.up hb1
      have hRX := hRX.up hb1
      have hB := nx hB hb1
      clear hb1
      clear e0 e1 e2 e3 e4 e5
      have c0 := hRX.cell 0 (by omega)
      have c1 := hRX.cell 1 (by omega)
      have z0 := hRX.free 0
      have z1 := hRX.free 1
      go_wp2_with fail
      refine ret_cell_tmp (b := w.heap.size + 1) (n := 2) (f := fr 0 0) Try.results25 rfl rfl Try.underlying30 (by kernel_rfl) (fin2' hRX _ _) rfl ⟨rfl, ?_⟩
      exact (hB.setCell (p := ⟨w.heap.size + 1, 0, none⟩) (Nat.le_succ _) _).setCell (p := ⟨w.heap.size + 1, 1, none⟩) (Nat.le_succ _) _
    · have g1 : decide (n < 0) = false := decide_eq_false h0
      by_cases h8 : 8 < n
      · have hno : okL d n = false := okL_2 (by omega)
        have g2 : decide (8 < n) = true := decide_eq_true h8
        rw [hno, (land_no hno).1, (land_no hno).2]
        clear hr hno
        unfold dv
        have hB := na (na (n0 w) (sixO d 22)) (.cells #[.int .i64 0, .int .i64 0] 30)
        have hD := (At.new6 w d 22 rfl).past (.cells #[.int .i64 0, .int .i64 0] 30)
        have hRX := At.new2 (w.alloc (sixO d 22)) 30
        rw [size_alloc] at hRX
        obtain ⟨e0, e1, e2, e3, e4, e5⟩ := hD.six
        go_enter Try.func25, Try.ntmps25
        go_wp2_with fail
        refine (Hc.out _).mono ?_
        rintro e w1 ⟨rfl, hb1⟩
        have hD := hD.up hb1
        have hRX := hRX.up hb1
        have hB := nx hB hb1
        clear hb1
        clear e0 e1 e2 e3 e4 e5
        have c0 := hRX.cell 0 (by omega)
        have c1 := hRX.cell 1 (by omega)
        have z0 := hRX.free 0
        have z1 := hRX.free 1
        go_wp2_with fail
        refine ret_cell_tmp (b := w.heap.size + 1) (n := 2) (f := fr 0 0) Try.results25 rfl rfl Try.underlying30 (by kernel_rfl) (fin2' hRX _ _) rfl ⟨rfl, ?_⟩
        exact (hB.setCell (p := ⟨w.heap.size + 1, 0, none⟩) (Nat.le_succ _) _).setCell (p := ⟨w.heap.size + 1, 1, none⟩) (Nat.le_succ _) _
      · have g2 : decide (8 < n) = false := decide_eq_false h8
        have hyes : okL d n = true := okL_yes hr (by omega)
        obtain ⟨n, rfl⟩ : ∃ m : Nat, n = m := ⟨n.toNat, by omega⟩
        rw [hyes, (land_yes hyes).1, (land_yes hyes).2]
        have hd := faces_of hr
        generalize face d = f at *
        clear hyes hr
        have hfp : ∀ j, j < 6 → 1 ≤ f j := fun j hj => (hd j hj).2.1
        have hm : ∀ w, Calls Try.prog 65 #[dv d, .int .i64 0, .int .i64 n] w fun e w' => e = .returned (Big40.tv (zv (st f 0 n))) ∧ Below w.heap.size w w' := fun w => implTurn_any d f 0 n w hd (by omega)
        unfold dv at hm
        have Hm := Lib.hid hm; clear hm hd
        have Ho := Lib.hid (fun w => outcomesL 10 w (by omega))
        rw [show all6 10 = 60466176 from by decide] at Ho
        have hix : ∀ (w : World), (Instr.index 68 (Big40.tv (zv (st f 0 n))) (.int .i64 n)).run Try.prog w = .ok (.int .i64 (st f 0 n n : Nat)) w := fun w => run_index_vals (P := Try.prog) w 68 3 40 Try.underlying68 Try.underlying3 Try.sizeOf3 (zv (st f 0 n)) (show n < 40 by omega)
        have hcut : ∀ w, Calls Try.prog 59 #[.int .i64 (st f 0 n n : Nat), .int .i64 60466176] w fun e w' => e = .returned (v2 (num (st f 0 n n) 60466176 : Nat) (den (st f 0 n n) 60466176 : Nat)) ∧ Below w.heap.size w w' := fun w => FracL.fractionL (st f 0 n n) 60466176 w (by have := st_small f 0 (show n ≤ 10 by omega) n; omega) (by omega) (by omega)
        rw [(land_cut hfp (show n ≤ 10 by omega)).1, (land_cut hfp (show n ≤ 10 by omega)).2] at hcut
        have Hcut := Lib.hid hcut; clear hcut
        generalize num (pp f n) (6 ^ n) = x0 at *
        generalize den (pp f n) (6 ^ n) = y0 at *
        generalize zv (st f 0 n) = Z at *
        generalize st f 0 n n = R at *
        unfold dv
        have hB := na (na (n0 w) (sixO d 22)) (.cells #[.int .i64 0, .int .i64 0] 30)
        have hD := (At.new6 w d 22 rfl).past (.cells #[.int .i64 0, .int .i64 0] 30)
        have hRX := At.new2 (w.alloc (sixO d 22)) 30
        rw [size_alloc] at hRX
        obtain ⟨e0, e1, e2, e3, e4, e5⟩ := hD.six
        go_enter Try.func25, Try.ntmps25
        go_wp2_with fail
        refine (Hc.out _).mono ?_
        rintro e w1 ⟨rfl, hb1⟩
        have hD := hD.up hb1
        have hRX := hRX.up hb1
        have hB := nx hB hb1
        clear hb1
        clear e0 e1 e2 e3 e4 e5
        obtain ⟨e0, e1, e2, e3, e4, e5⟩ := hD.drew.six
        have HR := Lib.hid hRX.drew
        have HB := Lib.hid hB.drew
        clear hD hRX hB
        go_wp2_with fail
        go_region_with (first | (go_at_call 65; refine (Hm.out _).mono ?_; rintro e w2 ⟨rfl, hb2⟩) | (go_at_call 60; refine (Ho.out _).mono ?_; rintro e w3 ⟨rfl, hw3⟩; have hw3 := hw3.symm; subst hw3) | (go_at_call 59; refine (Hcut.out _).mono ?_; rintro e w4 ⟨rfl, hb4⟩; have hRX := (HR.out.up hb2).up hb4; have c0 := hRX.cell 0 (by omega); have c1 := hRX.cell 1 (by omega); have z0 := hRX.free 0; have z1 := hRX.free 1))
        all_goals
          have hB := nx (nx HB.out hb2) hb4
          go_wp2_with fail
          refine ret_cell_tmp (b := w.heap.size + 1) (n := 2) (f := fr x0 y0) Try.results25 rfl rfl Try.underlying30 (by kernel_rfl) (fin2' hRX _ _) rfl ⟨rfl, ?_⟩
          exact (hB.setCell (p := ⟨w.heap.size + 1, 0, none⟩) (Nat.le_succ _) _).setCell (p := ⟨w.heap.size + 1, 1, none⟩) (Nat.le_succ _) _

set_option maxRecDepth 100000 in
set_option maxHeartbeats 8000000 in
theorem specLand_any (d : Nat → Int) (n : Int) (w : World) :
    Calls Try.prog 24 #[dv d, .int .i64 n] w fun e w' => e = .returned (.tuple #[v2 (landx d n) (landy d n), .bool (okL d n)]) ∧ Below w.heap.size w w' := by
  have hc := fun w => specRunner_any d w
  unfold dv at hc
  have Hc := Lib.hid hc; clear hc
  have hgo := fun w => l1In_any n 0 8 w
  cases hr : isRun d
  · rw [hr] at Hc
    have hno : okL d n = false := okL_1 hr
    rw [hno, (land_no hno).1, (land_no hno).2]
    clear hr hno hgo
    unfold dv
    have hB := na (na (n0 w) (sixO d 22)) (.cells #[.int .i64 0, .int .i64 0] 30)
    have hD := (At.new6 w d 22 rfl).past (.cells #[.int .i64 0, .int .i64 0] 30)
    have hRX := At.new2 (w.alloc (sixO d 22)) 30
    rw [size_alloc] at hRX
    obtain ⟨e0, e1, e2, e3, e4, e5⟩ := hD.six
    go_enter Try.func24, Try.ntmps24
    go_wp2_with fail
    refine (Hc.out _).mono ?_
    rintro e w1 ⟨rfl, hb1⟩
    have hD := hD.up hb1
    have hRX := hRX.up hb1
    have hB := nx hB hb1
    clear hb1
    clear e0 e1 e2 e3 e4 e5
    have c0 := hRX.cell 0 (by omega)
    have c1 := hRX.cell 1 (by omega)
    have z0 := hRX.free 0
    have z1 := hRX.free 1
    go_wp2_with fail
    refine ret_cell_tmp (b := w.heap.size + 1) (n := 2) (f := fr 0 0) Try.results24 rfl rfl Try.underlying30 (by kernel_rfl) (fin2' hRX _ _) rfl ⟨rfl, ?_⟩
    exact (hB.setCell (p := ⟨w.heap.size + 1, 0, none⟩) (Nat.le_succ _) _).setCell (p := ⟨w.heap.size + 1, 1, none⟩) (Nat.le_succ _) _
  · rw [hr] at Hc
    by_cases hnn : 0 ≤ n ∧ n ≤ 8
    · rw [decide_eq_true hnn] at hgo
      have Hg := Lib.hid hgo; clear hgo
      have hyes : okL d n = true := okL_yes hr hnn
      obtain ⟨h1, h8⟩ := hnn
      obtain ⟨n, rfl⟩ : ∃ m : Nat, n = m := ⟨n.toNat, by omega⟩
      rw [hyes, (land_yes hyes).1, (land_yes hyes).2]
      have hd := faces_of hr
      generalize face d = f at *
      clear hyes hr
      have hfp : ∀ j, j < 6 → 1 ≤ f j := fun j hj => (hd j hj).2.1
      have Hd := Lib.hid hd
      have Hall := Lib.hid (fun n w (h : n ≤ 16) => l2AllL n w h)
      have Hpl := Lib.hid (fun t => pp_le hfp t)
      have Hql := Lib.hid (fun t i (ht : t ≤ 9) (hi : i ≤ 6) => pq_small hfp ht hi)
      have Hps := Lib.hid (fun n => pp_succ hfp n)
      have hpw := pow_six (show n ≤ 8 by omega)
      have Hcut : Hid (∀ w, Calls Try.prog 55 #[.int .i64 (pp f n : Nat), .int .i64 (6 ^ n : Nat)] w fun e w' => e = .returned (v2 (num (pp f n) (6 ^ n) : Nat) (den (pp f n) (6 ^ n) : Nat)) ∧ Below w.heap.size w w') := fun w => FracL.cutL _ _ w (by have := Hpl.out n; omega) (by omega) hpw.2
      generalize num (pp f n) (6 ^ n) = x0 at *
      generalize den (pp f n) (6 ^ n) = y0 at *
      obtain ⟨i0, hi, hz0, hz1, hz2⟩ := info_parts OwnL.info_int
      have Hi := Lib.hid (And.intro hi (And.intro hz0 (And.intro hz1 hz2)))
      have Hsn := Lib.hid (fun n => ppF_snoc f n)
      clear hi hz0 hz1 hz2 hd hfp hpw
      unfold dv
      have hB := na (na (n0 w) (sixO d 22)) (.cells #[.int .i64 0, .int .i64 0] 30)
      have hD := (At.new6 w d 22 rfl).past (.cells #[.int .i64 0, .int .i64 0] 30)
      have hRX := At.new2 (w.alloc (sixO d 22)) 30
      rw [size_alloc] at hRX
      obtain ⟨e0, e1, e2, e3, e4, e5⟩ := hD.six
      go_enter Try.func24, Try.ntmps24
      go_wp2_with fail
      refine (Hc.out _).mono ?_
      rintro e w1 ⟨rfl, hb1⟩
      have hD := hD.up hb1
      have hRX := hRX.up hb1
      have hB := nx hB hb1
      clear hb1
      clear e0 e1 e2 e3 e4 e5
      go_wp2_with fail
      refine (Hg.out _).mono ?_
      rintro e w2 ⟨rfl, hw2⟩
      have hw2 := hw2.symm
      subst hw2
      have hO := own_one w1 (.int .i64 1)
      have hB := na hB (.cells #[.int .i64 1] 3)
      have hD := hD.past (.cells #[.int .i64 1] 3)
      have hRX0 := hRX.lt
      have hRX := hRX.past (.cells #[.int .i64 1] 3)
      have hO := own_mono hO (B' := w.heap.size + 2) (by omega)
      go_wp2_with fail
      go_loopw [6, 7] (fun ov kv wr => ∃ k m : Nat, (m ≤ k + 1 ∧ k + 1 ≤ m) ∧ k ≤ n ∧ kv = .int .i64 m ∧ wr.ownsRow (w.heap.size + 2) 3 1 ov m (vals m (fun t => (pp f t : Int))) ∧ At wr (w.heap.size + 1) 2 (fun _ => 0) ∧ At wr w.heap.size 6 d ∧ Below w.heap.size w wr) (fun _ kv _ => n + 1 - (intOf kv).toNat)
      case atStart => exact ⟨0, 1, by omega, by omega, rfl, hO, hRX, hD, hB⟩
      case round =>
        clear hO hRX hD hB
        obtain ⟨W0, rfl⟩ : ∃ W0, W0 = wr := ⟨wr, rfl⟩
        obtain ⟨k, m, ⟨hm1, hm2⟩, hk, rfl, hO, hRX, hD, hB⟩ := hrel
        by_cases hlt : k < n
        · have hit : decide ((m : Int) ≤ (n : Int)) = true := decide_eq_true (by omega)
          have hitN : decide (m ≤ n) = true := decide_eq_true (by omega)
          obtain ⟨b, c, rfl, hb, hA⟩ := own_list hO (by omega)
          go_wp2_with fail
          go_loopw [8, 9] (fun av iv wr => ∃ i : Nat, i ≤ 6 ∧ iv = .int .i64 i ∧ av = .int .i64 (pq f (pp f) m i : Nat) ∧ Below W0.heap.size W0 wr) (fun _ iv _ => 6 - (intOf iv).toNat)
          case atStart => exact ⟨0, by omega, rfl, rfl, n0 _⟩
          case round =>
            obtain ⟨i, hi, rfl, rfl, hBq⟩ := hrel
            by_cases hi6 : i < 6
            · obtain ⟨hdi, hf1, hf30⟩ := Hd.out i hi6
              have hit6 : decide ((i : Int) < 6) = true := decide_eq_true (by omega)
              have ci := (hD.up hBq).cell i hi6
              rw [hdi] at ci
              have hqa := Hql.out m i (by omega) hi
              have hqb := Lib.hid (Hql.out m (i + 1) (by omega) (by omega))
              have hqs : Hid (pq f (pp f) m (i + 1) = pq f (pp f) m i + if f i ≤ m then pp f (m - f i) * 6 ^ (f i - 1) else 0) := rfl
              generalize hfi : f i = y at *
              have Hfi := Lib.hid hfi
              clear hfi hdi
              by_cases hle : y ≤ m
              · have hdc : decide ((y : Int) ≤ (m : Int)) = true := decide_eq_true (by omega)
                have hdcN : decide (y ≤ m) = true := decide_eq_true hle
                obtain ⟨s, hs⟩ : ∃ s, s = m - y := ⟨_, rfl⟩
                obtain ⟨e, he⟩ : ∃ e, e = y - 1 := ⟨_, rfl⟩
                have s1 := wsub (a := m) (b := y) (p := s) (by omega) (by omega)
                have s2 : IntKind.i64.wrap ((y : Int) - 1) = (e : Int) ∧ wrap64 ((y : Int) - 1) = (e : Int) := wsub (a := y) (b := 1) (p := e) (by omega) (by omega)
                have cs := (hA.up hBq).cell s (by omega)
                have Ho := Lib.hid (fun w => Hall.out e w (by omega))
                rw [show all6 e = 6 ^ e from rfl] at Ho
                have hqs2 : Hid (pq f (pp f) m (i + 1) = pq f (pp f) m i + pp f (m - y) * 6 ^ (y - 1)) := by
                  have h := hqs.out
                  rw [if_pos hle] at h
                  exact h
                rw [← hs, ← he] at hqs2
                obtain ⟨p, hp⟩ : ∃ p, p = pp f s * 6 ^ e := ⟨_, rfl⟩
                rw [← hp] at hqs2
                have Hp := Lib.hid hp.symm
                clear hp
                have hqb2 : pq f (pp f) m i + p ≤ 10077696 := by rw [← hqs2.out]; exact hqb.out
                have hpl : p ≤ 1000000000000000 := Nat.le_trans (Nat.le_add_left p _) (Nat.le_trans hqb2 (by decide))
                have m1 := wmul Hp.out hpl
                have a1 := wadd (a := pq f (pp f) m i) (b := p) rfl (Nat.le_trans hqb2 (by decide))
                clear hqs hqb
                have hqs := hqs2
                have hsm : (s : Int) < (m : Int) := by omega
                have hs0 : (0 : Int) ≤ (s : Int) := by omega
                have hi6i : (i : Int) < 6 := by omega
                have Qh := Lib.hid (And.intro hm1 (And.intro hm2 (And.intro hlt hle)))
                clear hs he hqa hqb2 hpl hf1 hf30 hm1 hm2 hlt hle hk hqs2 Hp
                obtain ⟨s11, s12⟩ := s1
                obtain ⟨s21, s22⟩ := s2
                obtain ⟨m11, m12⟩ := m1
                obtain ⟨a11, a12⟩ := a1
                generalize 6 ^ e = W6 at *
                generalize pp f s = ps at *
                generalize hq0 : pq f (pp f) m i = q0 at *
                have Hq0 := Lib.hid hq0
                clear hq0
                go_wp2_with fail
                go_quiet ((go_at_call 56; exact Calls.quiet_of_same (Ho.out _)))
                obtain ⟨hm1, hm2, hlt, hle⟩ := Qh.out
                go_wp2_with fail
                go_roundw
                case rel => exact ⟨i + 1, by omega, by go_num, by rw [hqs.out, Int.natCast_add], below_drewN hBq _⟩
                case measure => simp [intOf]; omega
              · have hdc : decide ((y : Int) ≤ (m : Int)) = false := decide_eq_false (by omega)
                have hdcN : decide (y ≤ m) = false := decide_eq_false hle
                have hqs2 : Hid (pq f (pp f) m (i + 1) = pq f (pp f) m i) := by
                  have h := hqs.out
                  rw [if_neg hle, Nat.add_zero] at h
                  exact h
                clear hqs hqb
                go_wp2_with fail
                go_roundw
                case rel => exact ⟨i + 1, by omega, by go_num, by rw [hqs2.out], hBq⟩
                case measure => simp [intOf]; omega
            · obtain rfl : i = 6 := by omega
              have hit6 : decide ((6 : Int) < 6) = false := by decide
              have hmk : m = k + 1 := by omega
              have e6 : pq f (pp f) m 6 = pp f (k + 1) := by rw [hmk, Hps.out]
              rw [e6]
              have Hs1 : Hid (vals m (fun t => (pp f t : Int)) ++ [.int .i64 (pp f (k + 1) : Nat)] = vals (m + 1) (fun t => (pp f t : Int))) := by rw [hmk]; exact Hsn.out k
              clear e6 hmk
              have hpk := Nat.le_trans (Hpl.out (k + 1)) (pow_six (show k + 1 ≤ 8 by omega)).1
              have hO3 := own_up hO hBq
              have hR3 := hRX.up hBq
              have hD3 := hD.up hBq
              have hB3 := nx hB hBq
              clear hO hRX hD hB hBq hA
              generalize pp f (k + 1) = tk at *
              go_wp2_with (at_builtin; refine wpList_append_own _ rfl _ _ 51 rfl (w.heap.size + 2) 3 i0 (.int .i64 0) 1 8 Try.underlying51 Hi.out.1 Hi.out.2.1 Hi.out.2.2.1 Hi.out.2.2.2 rfl (by decide) _ _ _ rfl (hO3.alloc _) ⟨wr.heap.size, 0, none⟩ 1 1 [.int .i64 (tk : Nat)] rfl rfl ?c1 ?c2 ?c3 ?c4 ?c5 ?_)
              case c1 => exact news_one (cell_one _ _ _)
              case c2 => intro u hu; simp at hu; subst hu; rfl
              case c3 => unfold maxLen; omega
              case c4 => omega
              case c5 => have := hR3.lt; simp; omega
              · intro v' w4 hO4 hg4 _
                have hB4 := (na hB3 (.cells #[.int .i64 (tk : Nat)] 3)).grown hg4 (by rw [size_alloc]; have := hB3.size; omega) (fun t e => by have := (hO3.lt t e).1; omega)
                have hR4 := keptO (hR3.past (.cells #[.int .i64 (tk : Nat)] 3)) hg4 (fun e => by have := (hO3.lt _ e.symm).1; omega)
                have hD4 := keptO (hD3.past (.cells #[.int .i64 (tk : Nat)] 3)) hg4 (fun e => by have := (hO3.lt _ e.symm).1; omega)
                rw [Hs1.out] at hO4
                clear hg4 hO3
                go_wp2_with fail
                go_roundw
                case rel => exact ⟨k + 1, m + 1, by omega, by omega, by go_num, hO4, hR4, hD4, hB4⟩
                case measure => simp [intOf]; omega
        · obtain rfl : k = n := by omega
          have hit : decide ((m : Int) ≤ (k : Int)) = false := decide_eq_false (by omega)
          have hitN : decide (m ≤ k) = false := decide_eq_false (by omega)
          obtain ⟨b, c, rfl, hb, hA⟩ := own_list hO (by omega)
          have ck := hA.drew.cell k (by omega)
          have Ho := Lib.hid (fun w => Hall.out k w (by omega))
          rw [show all6 k = 6 ^ k from rfl] at Ho
          have HR := Lib.hid hRX.drew
          have HB := Lib.hid hB.drew
          have HA := Lib.hid hA.drew
          have hkm : (k : Int) < (m : Int) := by omega
          generalize 6 ^ k = V at *
          clear hA hRX hB hD hO
          go_wp2_with fail
          go_region_with (first | (go_at_call 56; refine (Ho.out _).mono ?_; rintro e w3 ⟨rfl, hw3⟩; have hw3 := hw3.symm; subst hw3) | (go_at_call 55; refine (Hcut.out _).mono ?_; rintro e w4 ⟨rfl, hb4⟩; have hRX := HR.out.up hb4; have c0 := hRX.cell 0 (by omega); have c1 := hRX.cell 1 (by omega); have z0 := hRX.free 0; have z1 := hRX.free 1))
          all_goals
            have hB := nx HB.out hb4
            go_wp2_with fail
            refine ret_cell_tmp (b := w.heap.size + 1) (n := 2) (f := fr x0 y0) Try.results24 rfl rfl Try.underlying30 (by kernel_rfl) (fin2' hRX _ _) rfl ⟨rfl, ?_⟩
            exact (hB.setCell (p := ⟨w.heap.size + 1, 0, none⟩) (Nat.le_succ _) _).setCell (p := ⟨w.heap.size + 1, 1, none⟩) (Nat.le_succ _) _
    · rw [decide_eq_false hnn] at hgo
      have hno : okL d n = false := okL_2 hnn
      have Hg := Lib.hid hgo; clear hgo
      rw [hno, (land_no hno).1, (land_no hno).2]
      clear hr hno hnn
      unfold dv
      have hB := na (na (n0 w) (sixO d 22)) (.cells #[.int .i64 0, .int .i64 0] 30)
      have hD := (At.new6 w d 22 rfl).past (.cells #[.int .i64 0, .int .i64 0] 30)
      have hRX := At.new2 (w.alloc (sixO d 22)) 30
      rw [size_alloc] at hRX
      obtain ⟨e0, e1, e2, e3, e4, e5⟩ := hD.six
      go_enter Try.func24, Try.ntmps24
      go_wp2_with fail
      refine (Hc.out _).mono ?_
      rintro e w1 ⟨rfl, hb1⟩
      have hD := hD.up hb1
      have hRX := hRX.up hb1
      have hB := nx hB hb1
      clear hb1
      clear e0 e1 e2 e3 e4 e5
      go_wp2_with fail
      refine (Hg.out _).mono ?_
      rintro e w2 ⟨rfl, hw2⟩
      have hw2 := hw2.symm
      subst hw2
      have c0 := hRX.cell 0 (by omega)
      have c1 := hRX.cell 1 (by omega)
      have z0 := hRX.free 0
      have z1 := hRX.free 1
      go_wp2_with fail
      refine ret_cell_tmp (b := w.heap.size + 1) (n := 2) (f := fr 0 0) Try.results24 rfl rfl Try.underlying30 (by kernel_rfl) (fin2' hRX _ _) rfl ⟨rfl, ?_⟩
      exact (hB.setCell (p := ⟨w.heap.size + 1, 0, none⟩) (Nat.le_succ _) _).setCell (p := ⟨w.heap.size + 1, 1, none⟩) (Nat.le_succ _) _


end Lands
end Go.Proofs.Ytcffglnfdnanhaa
