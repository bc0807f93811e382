/-
  Whether a list is a phrase, in the program and in its model.
-/
import Derived.Test.YtdodokeebmdceaaRows
import Derived.Test.YtdodokeebmdceaaArr
import Derived.Test.YtdodokeebmdceaaAnyR
import Derived.Test.YtdodokeebmdceaaDieW
import Derived.Test.YtdodokeebmdceaaSortW
import Derived.Test.YtdodokeebmdceaaFracW
import Derived.Test.YtdodokeebmdceaaFracL
import Derived.Test.YtdodokeebmdceaaCutW
import Derived.Test.YtdodokeebmdceaaAll6
import Derived.Test.YtdodokeebmdceaaAllL
import Derived.Test.YtdodokeebmdceaaOwnL
import Derived.Test.YtdodokeebmdceaaFracM
import Derived.Test.YtdodokeebmdceaaWgtM
import Derived.Test.YtdodokeebmdceaaWgtW
import Derived.Test.YtdodokeebmdceaaShelfSl
import Derived.Test.YtdodokeebmdceaaOpenI
import Derived.Test.YtdodokeebmdceaaPhrM
import Derived.Test.YtdodokeebmdceaaPhrW
import Derived.Test.YtdodokeebmdceaaOpenD
import Derived.StillTail
import Derived.StillTactics
import Derived.StillTailTactics
import Derived.BigRegion
import Derived.WalkKit
import Derived.WalkLawsBesides
import Derived.WalkSpells
import Derived.ProofKit
import Derived.OpenShut
import Derived.Deep.RegionWith
import Derived.Deep.QuietTactic
import Derived.BigQuiet
namespace Go.Proofs.Ytdodokeebmdceaa
open Go.ChangeShapes Go.WideShapes Go.ChangeAt Go.RowKit
open Go.ChangeMaps (open_string shut_string)

namespace PhrV
open Dice Arr DieW SortW FracW CutW All6 AllL OwnL FracM WgtM WgtW OpenG PhrM PhrW


/-- Whether all of the first n numbers are numbers of a die. -/
def posW (d f : Nat → Int) : Nat → Bool
  | 0 => true
  | n + 1 => posW d f n && !(wgt d (f n) 6 == 0)
theorem posW_no {d f : Nat → Int} {i : Nat} : ∀ {n : Nat}, i < n → wgt d (f i) 6 = 0 → posW d f n = false
  | 0, h, _ => by omega
  | n + 1, h, h0 => by
    by_cases hi : i = n
    · subst hi
      show (posW d f i && !(wgt d (f i) 6 == 0)) = false
      rw [h0, Bool.and_comm]; rfl
    · show (posW d f n && _) = false
      rw [posW_no (by omega) h0]; rfl
theorem posW_yes {d f : Nat → Int} {n : Nat} (h : posW d f n = true) (h0 : wgt d (f n) 6 ≠ 0) : posW d f (n + 1) = true := by
  show (posW d f n && !(wgt d (f n) 6 == 0)) = true
  rw [h]
  simp [h0]
theorem of_posW {d f : Nat → Int} : ∀ {n : Nat}, posW d f n = true → ∀ i, i < n → 1 ≤ wgt d (f i) 6
  | 0, _, i, hi => by omega
  | n + 1, h, i, hi => by
    have h' : (posW d f n && !(wgt d (f n) 6 == 0)) = true := h
    simp only [Bool.and_eq_true, Bool.not_eq_true', beq_eq_false_iff_ne] at h'
    by_cases hin : i = n
    · subst hin; have := h'.2; omega
    · exact of_posW h'.1 i (by omega)
def okPh (d : Nat → Int) (n : Nat) (f : Nat → Int) : Bool := isDie d && (decide (1 ≤ n ∧ n ≤ 6) && posW d f n)
theorem ph_1 {d : Nat → Int} {n : Nat} {f : Nat → Int} (h : isDie d = false) : okPh d n f = false := by simp [okPh, h]
theorem ph_2 {d : Nat → Int} {n : Nat} {f : Nat → Int} (h : ¬ (1 ≤ n ∧ n ≤ 6)) : okPh d n f = false := by simp only [okPh, decide_eq_false h, Bool.false_and, Bool.and_false]
theorem ph_3 {d : Nat → Int} {n : Nat} {f : Nat → Int} (h : posW d f n = false) : okPh d n f = false := by simp [okPh, h]
theorem ph_4 {d : Nat → Int} {n : Nat} {f : Nat → Int} (h : isDie d = true) (h1 : 1 ≤ n ∧ n ≤ 6) (h2 : posW d f n = true) : okPh d n f = true := by simp [okPh, h, h1, h2]
theorem of_ph {d : Nat → Int} {n : Nat} {f : Nat → Int} (h : okPh d n f = true) : isDie d = true ∧ 1 ≤ n ∧ n ≤ 6 ∧ ∀ i, i < n → 1 ≤ wgt d (f i) 6 := by
  simp only [okPh, Bool.and_eq_true, decide_eq_true_eq] at h
  exact ⟨h.1, h.2.1.1, h.2.1.2, of_posW h.2.2⟩

set_option maxRecDepth 100000 in
set_option maxHeartbeats 4000000 in
theorem implPh_any (d : Nat → Int) (A : Option Addr) (n c : Nat) (f : Nat → Int) (w : World) (h : RowI w A n f) :
    Calls Try.prog 72 #[dv d, .slice A n c] w fun e w' => e = .returned (.bool (okPh d n f)) ∧ Below w.heap.size w w' := by
  have hc := fun w => implIsDie_any d w
  unfold dv at hc
  have Hc := Lib.hid hc; clear hc
  cases hr : isDie d
  · rw [hr] at Hc
    rw [ph_1 hr]
    clear hr h
    unfold dv
    have hB0 := na (n0 w) (sixO d 22)
    have hD0 := At.new6 w d 22 rfl
    obtain ⟨e0, e1, e2, e3, e4, e5⟩ := hD0.six
    go_enter Try.func72, Try.ntmps72
    go_wp2_with fail
    go_wp2_with fail
    refine (Hc.out _).mono ?_
    rintro e w1 ⟨rfl, hb1⟩
    have hB := nx hB0 hb1
    have hD := hD0.up hb1
    clear hB0 hD0 hb1 e0 e1 e2 e3 e4 e5
    go_wp2_with fail
    go_ret
    exact ⟨rfl, hB⟩
  rw [hr] at Hc
  by_cases hn1 : n < 1
  · rw [ph_2 (by omega)]
    have g1 : decide ((n : Int) < 1) = true := decide_eq_true (by omega)
    have g1N : decide (n < 1) = true := decide_eq_true hn1
    clear hr h
    unfold dv
    have hB0 := na (n0 w) (sixO d 22)
    have hD0 := At.new6 w d 22 rfl
    obtain ⟨e0, e1, e2, e3, e4, e5⟩ := hD0.six
    go_enter Try.func72, Try.ntmps72
    go_wp2_with fail
    go_wp2_with fail
    refine (Hc.out _).mono ?_
    rintro e w1 ⟨rfl, hb1⟩
    have hB := nx hB0 hb1
    have hD := hD0.up hb1
    clear hB0 hD0 hb1 e0 e1 e2 e3 e4 e5
    go_wp2_with fail
    go_ret
    exact ⟨rfl, hB⟩
  have g1 : decide ((n : Int) < 1) = false := decide_eq_false (by omega)
  have g1N : decide (n < 1) = false := decide_eq_false hn1
  by_cases hn6 : 6 < n
  · rw [ph_2 (by omega)]
    have g2 : decide (6 < (n : Int)) = true := decide_eq_true (by omega)
    have g2N : decide (6 < n) = true := decide_eq_true hn6
    clear hr h
    unfold dv
    have hB0 := na (n0 w) (sixO d 22)
    have hD0 := At.new6 w d 22 rfl
    obtain ⟨e0, e1, e2, e3, e4, e5⟩ := hD0.six
    go_enter Try.func72, Try.ntmps72
    go_wp2_with fail
    go_wp2_with fail
    refine (Hc.out _).mono ?_
    rintro e w1 ⟨rfl, hb1⟩
    have hB := nx hB0 hb1
    have hD := hD0.up hb1
    clear hB0 hD0 hb1 e0 e1 e2 e3 e4 e5
    go_wp2_with fail
    go_ret
    exact ⟨rfl, hB⟩
  have g2 : decide (6 < (n : Int)) = false := decide_eq_false (by omega)
  have g2N : decide (6 < n) = false := decide_eq_false hn6
  have hok : okPh d n f = posW d f n := by simp only [okPh, hr, decide_eq_true (show 1 ≤ n ∧ n ≤ 6 by omega), Bool.true_and]
  rw [hok]
  have hw := implW_any d
  unfold dv at hw
  have Hw := Lib.hid hw; clear hw
  have H := Lib.hid h; clear h
  clear hok hr
  unfold dv
  have hB0 := na (n0 w) (sixO d 22)
  have hD0 := At.new6 w d 22 rfl
  obtain ⟨e0, e1, e2, e3, e4, e5⟩ := hD0.six
  go_enter Try.func72, Try.ntmps72
  go_wp2_with fail
  go_wp2_with fail
  refine (Hc.out _).mono ?_
  rintro e w1 ⟨rfl, hb1⟩
  have hB := nx hB0 hb1
  have hD := hD0.up hb1
  clear hB0 hD0 hb1 e0 e1 e2 e3 e4 e5
  go_wp2_with fail
  go_loopw [22] (fun iv wr => ∃ i : Nat, i ≤ n ∧ iv = .int .i64 i ∧ Hid (posW d f i = true) ∧ At wr w.heap.size 6 d ∧ Below w.heap.size w wr) (fun iv _ => n - (intOf iv).toNat)
  case atStart => exact ⟨0, by omega, rfl, rfl, hD, hB⟩
  case round =>
    clear hD hB
    obtain ⟨i, hi, rfl, hp, hD, hB⟩ := hrel
    by_cases hlt : i < n
    · have hit : decide ((i : Int) < (n : Int)) = true := decide_eq_true (by omega)
      obtain ⟨b, o, rfl, _, ci⟩ := (H.out.up hB).at_ hlt
      obtain ⟨e0, e1, e2, e3, e4, e5⟩ := hD.six
      have hwc := Hw.out (f i)
      by_cases h0 : wgt d (f i) 6 = 0
      · have hno := Lib.hid (posW_no (d := d) hlt h0)
        rw [h0] at hwc
        have Hwc := Lib.hid hwc; clear hwc h0
        go_wp2_with fail
        refine (Hwc.out _).mono ?_
        rintro e w2 ⟨rfl, hb2⟩
        have hB := nx hB hb2
        clear e0 e1 e2 e3 e4 e5 ci
        go_wp2_with fail
        go_ret
        exact ⟨by rw [hno.out]; rfl, hB⟩
      · have hyes := Lib.hid (posW_yes hp.out h0)
        have hb0 : ((wgt d (f i) 6 : Nat) : Int) ≠ 0 := by omega
        have Hwc := Lib.hid hwc; clear hwc h0
        generalize wgt d (f i) 6 = v at *
        have hbb : ((v : Int) == 0) = false := by simpa using hb0
        go_wp2_with fail
        refine (Hwc.out _).mono ?_
        rintro e w2 ⟨rfl, hb2⟩
        have hB := nx hB hb2
        have hD := hD.up hb2
        clear e0 e1 e2 e3 e4 e5 ci
        go_wp2_with fail
        go_roundw
        case rel => exact ⟨i + 1, by omega, by go_num, hyes, hD, hB⟩
        case measure => simp [intOf]; omega
    · obtain rfl : i = n := by omega
      have hit : decide ((i : Int) < (i : Int)) = false := decide_eq_false (by omega)
      go_wp2_with fail
      go_ret
      exact ⟨by rw [hp.out]; rfl, hB⟩

set_option maxRecDepth 100000 in
set_option maxHeartbeats 4000000 in
theorem specPh_any (d : Nat → Int) (A : Option Addr) (n c : Nat) (f : Nat → Int) (w : World) (h : RowI w A n f) :
    Calls Try.prog 70 #[dv d, .slice A n c] w fun e w' => e = .returned (.bool (okPh d n f)) ∧ Below w.heap.size w w' := by
  have hc := fun w => l2Die_any d w
  unfold dv at hc
  have Hc := Lib.hid hc; clear hc
  have hw := specW_any d
  unfold dv at hw
  have Hw := Lib.hid hw; clear hw
  have H := Lib.hid h; clear h
  have Hg := Lib.hid (fun w => l1In_any (n : Int) 1 6 w)
  unfold dv
  have hB0 := na (n0 w) (sixO d 22)
  have hD0 := At.new6 w d 22 rfl
  obtain ⟨e0, e1, e2, e3, e4, e5⟩ := hD0.six
  clear e0 e1 e2 e3 e4 e5
  go_enter Try.func70, Try.ntmps70
  go_wp2_with fail
  go_loopw [5] (fun iv wr => ∃ i : Nat, i ≤ n ∧ i ≤ 7 ∧ iv = .int .i64 i ∧ Hid (posW d f i = true) ∧ At wr w.heap.size 6 d ∧ Below w.heap.size w wr) (fun iv _ => n - (intOf iv).toNat)
  case atStart => exact ⟨0, by omega, by omega, rfl, rfl, hD0, hB0⟩
  case round =>
    clear hD0 hB0
    obtain ⟨i, hi, hi7, rfl, hp, hD, hB⟩ := hrel
    by_cases hlt : i < n ∧ i ≤ 6
    · have hit : decide ((i : Int) < (n : Int)) = true := decide_eq_true (by omega)
      have hitN : decide (i < n) = true := decide_eq_true hlt.1
      have hit6 : decide ((i : Int) ≤ 6) = true := decide_eq_true (by omega)
      have hit6N : decide (i ≤ 6) = true := decide_eq_true hlt.2
      have hltI : (i : Int) < (n : Int) := by omega
      obtain ⟨b, o, rfl, _, ci⟩ := (H.out.up hB.drew).at_ hlt.1
      obtain ⟨e0, e1, e2, e3, e4, e5⟩ := hD.drew.six
      have hD' := hD.drew
      have hB' := hB.drew
      have hwc := Hw.out (f i)
      by_cases h0 : wgt d (f i) 6 = 0
      · have hno : Hid (okPh d n f = false) := by
          by_cases h6 : n ≤ 6
          · exact ph_3 (posW_no (d := d) hlt.1 h0)
          · exact ph_2 (by omega)
        rw [h0] at hwc
        have Hwc := Lib.hid hwc; clear hwc h0 hp hD hB
        go_wp2_with fail
        refine wp_region_still_tail 5 (by kernel_rfl) (by kernel_rfl) ?_
        simp only [List.take_succ_cons, List.take_zero, List.drop_succ_cons, List.drop_zero]
        repeat still_step
        refine wpStill_nil ?_
        change wpList _ _ _ _ _ wr.drew
        generalize wr.drew = W5 at *
        clear e0 e1 e2 e3 e4 e5 ci
        go_wp2_with fail
        refine (Hwc.out _).mono ?_
        rintro e w2 ⟨rfl, hb2⟩
        have hB := nx hB' hb2
        go_wp2_with fail
        go_ret
        exact ⟨by rw [hno.out]; rfl, hB⟩
      · have hyes := Lib.hid (posW_yes hp.out h0)
        have hb0 : ((wgt d (f i) 6 : Nat) : Int) ≠ 0 := by omega
        have Hwc := Lib.hid hwc; clear hwc h0 hp hD hB
        generalize wgt d (f i) 6 = v at *
        have hbb : ((v : Int) == 0) = false := by simpa using hb0
        go_wp2_with fail
        refine wp_region_still_tail 5 (by kernel_rfl) (by kernel_rfl) ?_
        simp only [List.take_succ_cons, List.take_zero, List.drop_succ_cons, List.drop_zero]
        repeat still_step
        refine wpStill_nil ?_
        change wpList _ _ _ _ _ wr.drew
        generalize wr.drew = W5 at *
        clear e0 e1 e2 e3 e4 e5 ci
        go_wp2_with fail
        refine (Hwc.out _).mono ?_
        rintro e w2 ⟨rfl, hb2⟩
        have hB := nx hB' hb2
        have hD := hD'.up hb2
        go_wp2_with fail
        go_roundw
        case rel => exact ⟨i + 1, by omega, by omega, by go_num, hyes, hD, hB⟩
        case measure => simp [intOf]; omega
    · have hf : (decide ((i : Int) < (n : Int)) = false ∧ decide (i < n) = false ∧ i = n) ∨ (decide ((i : Int) < (n : Int)) = true ∧ decide (i < n) = true ∧ decide ((i : Int) ≤ 6) = false ∧ decide (i ≤ 6) = false ∧ 6 < n) := by
        by_cases h1 : i < n
        · exact .inr ⟨decide_eq_true (by omega), decide_eq_true h1, decide_eq_false (by omega), decide_eq_false (by omega), by omega⟩
        · exact .inl ⟨decide_eq_false (by omega), decide_eq_false h1, by omega⟩
      obtain ⟨e0, e1, e2, e3, e4, e5⟩ := hD.six
      have hres : Hid (okPh d n f = (isDie d && decide ((1 : Int) ≤ (n : Int) ∧ (n : Int) ≤ 6))) := by
        have e : decide ((1 : Int) ≤ (n : Int) ∧ (n : Int) ≤ 6) = decide (1 ≤ n ∧ n ≤ 6) := by congr 1; exact propext ⟨fun h => by omega, fun h => by omega⟩
        show okPh d n f = _
        rw [e]
        unfold okPh
        by_cases h6 : 1 ≤ n ∧ n ≤ 6
        · obtain rfl : i = n := by omega
          rw [hp.out, Bool.and_true]
        · rw [decide_eq_false h6]; rfl
      clear hlt hp
      cases hr : isDie d
      · rw [hr] at Hc hres
        clear hr
        obtain ⟨g1, g1N, hn⟩ | ⟨g1, g1N, g2, g2N, hn⟩ := hf
        all_goals
          go_wp2_with fail
          refine (Hc.out _).mono ?_
          rintro e w1 ⟨rfl, hb1⟩
          have hB := nx hB hb1
          clear e0 e1 e2 e3 e4 e5
          go_wp2_with fail
          go_ret
          exact ⟨by rw [hres.out]; rfl, hB⟩
      · rw [hr] at Hc hres
        clear hr
        obtain ⟨g1, g1N, hn⟩ | ⟨g1, g1N, g2, g2N, hn⟩ := hf
        all_goals
          clear hn
          go_wp2_with fail
          refine (Hc.out _).mono ?_
          rintro e w1 ⟨rfl, hb1⟩
          have hB := nx hB hb1
          clear e0 e1 e2 e3 e4 e5
          go_wp2_with fail
          refine (Hg.out _).mono ?_
          rintro e w2 ⟨rfl, hw2⟩
          have hw2 := hw2.symm
          subst hw2
          go_wp2_with fail
          go_ret
          exact ⟨by rw [hres.out, Bool.true_and, Bool.decide_and]; rfl, hB⟩


end PhrV
end Go.Proofs.Ytdodokeebmdceaa
