/-
  Turns: guards, gains.
-/
import Derived.Test.YtcffglnfdnanhaaRows
import Derived.Test.YtcffglnfdnanhaaArr
import Derived.Test.YtcffglnfdnanhaaAnyR
import Derived.Test.YtcffglnfdnanhaaDieW
import Derived.Test.YtcffglnfdnanhaaSortW
import Derived.Test.YtcffglnfdnanhaaFracW
import Derived.Test.YtcffglnfdnanhaaFracL
import Derived.Test.YtcffglnfdnanhaaCutW
import Derived.Test.YtcffglnfdnanhaaAll6
import Derived.Test.YtcffglnfdnanhaaAllL
import Derived.Test.YtcffglnfdnanhaaOwnL
import Derived.Test.YtcffglnfdnanhaaFracM
import Derived.Test.YtcffglnfdnanhaaStopM
import Derived.Test.YtcffglnfdnanhaaRunM
import Derived.Test.YtcffglnfdnanhaaRunI
import Derived.Test.YtcffglnfdnanhaaRunS
import Derived.Test.YtcffglnfdnanhaaRunW
import Derived.Test.YtcffglnfdnanhaaHoldM
import Derived.Test.YtcffglnfdnanhaaBig40
import Derived.Test.YtcffglnfdnanhaaBig41
import Derived.Test.YtcffglnfdnanhaaHoldI
import Derived.Test.YtcffglnfdnanhaaHoldS
import Derived.Test.YtcffglnfdnanhaaRunW
import Derived.Test.YtcffglnfdnanhaaOpenD
import Derived.WalkKit
import Derived.WalkLawsBesides
import Derived.WalkSpells
import Derived.ProofKit
import Derived.OpenShut
import Derived.Deep.RegionWith
import Derived.Deep.QuietTactic
import Derived.BigQuiet
namespace Go.Proofs.Ytcffglnfdnanhaa
open Go.ChangeShapes Go.WideShapes Go.ChangeAt Go.RowKit
open Go.ChangeMaps (open_string shut_string)

namespace HoldW
open Dice Arr DieW SortW FracW CutW All6 AllL OwnL FracM StopM RunM RunI RunS RunW HoldM HoldI HoldS

/-- Whether a turn is valid. -/
def okT (d : Nat → Int) (bad h : Int) : Bool := isRun d && (decide (1 ≤ bad ∧ bad ≤ 30) && decide (1 ≤ h ∧ h ≤ 10))
theorem okT_1 {d : Nat → Int} {bad h : Int} (x : isRun d = false) : okT d bad h = false := by simp only [okT, x, Bool.false_and]
theorem okT_2 {d : Nat → Int} {bad h : Int} (x : ¬ (1 ≤ bad ∧ bad ≤ 30)) : okT d bad h = false := by simp only [okT, decide_eq_false x, Bool.false_and, Bool.and_false]
theorem okT_3 {d : Nat → Int} {bad h : Int} (x : ¬ (1 ≤ h ∧ h ≤ 10)) : okT d bad h = false := by simp only [okT, decide_eq_false x, Bool.and_false]
theorem okT_yes {d : Nat → Int} {bad h : Int} (x : isRun d = true) (y : 1 ≤ bad ∧ bad ≤ 30) (z : 1 ≤ h ∧ h ≤ 10) : okT d bad h = true := by simp only [okT, x, decide_eq_true y, decide_eq_true z, Bool.and_true]
theorem of_okT {d : Nat → Int} {bad h : Int} (x : okT d bad h = true) : isRun d = true ∧ (1 ≤ bad ∧ bad ≤ 30) ∧ (1 ≤ h ∧ h ≤ 10) := by
  simpa [okT, and_assoc] using x

set_option maxRecDepth 100000 in
set_option maxHeartbeats 4000000 in
theorem canTurn_any (d : Nat → Int) (bad h : Int) (w : World) :
    Calls Try.prog 75 #[dv d, .int .i64 bad, .int .i64 h] w fun e w' => e = .returned (.bool (okT d bad h)) ∧ Below w.heap.size w w' := by
  have hc := implRunner_any d
  unfold dv at hc
  have Hc := Lib.hid hc; clear hc
  cases hr : isRun d
  · rw [hr] at Hc
    rw [okT_1 hr]
    clear hr
    unfold dv
    have hB := na (n0 w) (sixO d 22)
    have hD := At.new6 w d 22 rfl
    obtain ⟨e0, e1, e2, e3, e4, e5⟩ := hD.six
    go_enter Try.func75, Try.ntmps75
    go_wp2_with fail
    refine (Hc.out _).mono ?_
    rintro e w1 ⟨rfl, hb1⟩
    go_wp2_with fail
    go_ret
    exact ⟨rfl, nx hB hb1⟩
  · rw [hr] at Hc
    by_cases b1 : 1 ≤ bad
    · have g1 : decide (1 ≤ bad) = true := decide_eq_true b1
      by_cases b2 : bad ≤ 30
      · have g2 : decide (bad ≤ 30) = true := decide_eq_true b2
        by_cases h1 : 1 ≤ h
        · have g3 : decide (1 ≤ h) = true := decide_eq_true h1
          by_cases h2 : h ≤ 10
          · have g4 : decide (h ≤ 10) = true := decide_eq_true h2
            rw [okT_yes hr ⟨b1, b2⟩ ⟨h1, h2⟩]
            clear hr
            unfold dv
            have hB := na (n0 w) (sixO d 22)
            have hD := At.new6 w d 22 rfl
            obtain ⟨e0, e1, e2, e3, e4, e5⟩ := hD.six
            go_enter Try.func75, Try.ntmps75
            go_wp2_with fail
            refine (Hc.out _).mono ?_
            rintro e w1 ⟨rfl, hb1⟩
            go_wp2_with fail
            go_ret
            exact ⟨rfl, nx hB hb1⟩
          · have g4 : decide (h ≤ 10) = false := decide_eq_false h2
            rw [okT_3 (fun x => h2 x.2)]
            clear hr
            unfold dv
            have hB := na (n0 w) (sixO d 22)
            have hD := At.new6 w d 22 rfl
            obtain ⟨e0, e1, e2, e3, e4, e5⟩ := hD.six
            go_enter Try.func75, Try.ntmps75
            go_wp2_with fail
            refine (Hc.out _).mono ?_
            rintro e w1 ⟨rfl, hb1⟩
            go_wp2_with fail
            go_ret
            exact ⟨rfl, nx hB hb1⟩
        · have g3 : decide (1 ≤ h) = false := decide_eq_false h1
          rw [okT_3 (fun x => h1 x.1)]
          clear hr
          unfold dv
          have hB := na (n0 w) (sixO d 22)
          have hD := At.new6 w d 22 rfl
          obtain ⟨e0, e1, e2, e3, e4, e5⟩ := hD.six
          go_enter Try.func75, Try.ntmps75
          go_wp2_with fail
          refine (Hc.out _).mono ?_
          rintro e w1 ⟨rfl, hb1⟩
          go_wp2_with fail
          go_ret
          exact ⟨rfl, nx hB hb1⟩
      · have g2 : decide (bad ≤ 30) = false := decide_eq_false b2
        rw [okT_2 (fun x => b2 x.2)]
        clear hr
        unfold dv
        have hB := na (n0 w) (sixO d 22)
        have hD := At.new6 w d 22 rfl
        obtain ⟨e0, e1, e2, e3, e4, e5⟩ := hD.six
        go_enter Try.func75, Try.ntmps75
        go_wp2_with fail
        refine (Hc.out _).mono ?_
        rintro e w1 ⟨rfl, hb1⟩
        go_wp2_with fail
        go_ret
        exact ⟨rfl, nx hB hb1⟩
    · have g1 : decide (1 ≤ bad) = false := decide_eq_false b1
      rw [okT_2 (fun x => b1 x.1)]
      clear hr
      unfold dv
      have hB := na (n0 w) (sixO d 22)
      have hD := At.new6 w d 22 rfl
      obtain ⟨e0, e1, e2, e3, e4, e5⟩ := hD.six
      go_enter Try.func75, Try.ntmps75
      go_wp2_with fail
      refine (Hc.out _).mono ?_
      rintro e w1 ⟨rfl, hb1⟩
      go_wp2_with fail
      go_ret
      exact ⟨rfl, nx hB hb1⟩

set_option maxRecDepth 100000 in
set_option maxHeartbeats 4000000 in
theorem l7Turn_any (d : Nat → Int) (bad h : Int) (w : World) :
    Calls Try.prog 73 #[dv d, .int .i64 bad, .int .i64 h] w fun e w' => e = .returned (.bool (okT d bad h)) ∧ Below w.heap.size w w' := by
  have hc := specRunner_any d
  unfold dv at hc
  have Hc := Lib.hid hc; clear hc
  have hi1 := fun w => l1In_any bad 1 30 w
  have hi2 := fun w => l1In_any h 1 10 w
  cases hr : isRun d
  · rw [hr] at Hc
    rw [okT_1 hr]
    clear hr hi1 hi2
    unfold dv
    have hB := na (n0 w) (sixO d 22)
    have hD := At.new6 w d 22 rfl
    obtain ⟨e0, e1, e2, e3, e4, e5⟩ := hD.six
    go_enter Try.func73, Try.ntmps73
    go_wp2_with fail
    refine (Hc.out _).mono ?_
    rintro e w1 ⟨rfl, hb1⟩
    go_wp2_with fail
    go_ret
    exact ⟨rfl, nx hB hb1⟩
  · rw [hr] at Hc
    by_cases hb : 1 ≤ bad ∧ bad ≤ 30
    · rw [decide_eq_true hb] at hi1
      have H1 := Lib.hid hi1; clear hi1
      by_cases hh : 1 ≤ h ∧ h ≤ 10
      · rw [decide_eq_true hh] at hi2
        have H2 := Lib.hid hi2; clear hi2
        rw [okT_yes hr hb hh]
        clear hr hb hh
        unfold dv
        have hB := na (n0 w) (sixO d 22)
        have hD := At.new6 w d 22 rfl
        obtain ⟨e0, e1, e2, e3, e4, e5⟩ := hD.six
        go_enter Try.func73, Try.ntmps73
        go_wp2_with fail
        refine (Hc.out _).mono ?_
        rintro e w1 ⟨rfl, hb1⟩
        go_wp2_with fail
        refine (H1.out _).mono ?_
        rintro e w2 ⟨rfl, hw2⟩
        have hw2 := hw2.symm
        subst hw2
        go_wp2_with fail
        refine (H2.out _).mono ?_
        rintro e w3 ⟨rfl, hw3⟩
        have hw3 := hw3.symm
        subst hw3
        go_wp2_with fail
        go_ret
        exact ⟨rfl, nx hB hb1⟩
      · rw [decide_eq_false hh] at hi2
        have H2 := Lib.hid hi2; clear hi2
        rw [okT_3 hh]
        clear hr hb hh
        unfold dv
        have hB := na (n0 w) (sixO d 22)
        have hD := At.new6 w d 22 rfl
        obtain ⟨e0, e1, e2, e3, e4, e5⟩ := hD.six
        go_enter Try.func73, Try.ntmps73
        go_wp2_with fail
        refine (Hc.out _).mono ?_
        rintro e w1 ⟨rfl, hb1⟩
        go_wp2_with fail
        refine (H1.out _).mono ?_
        rintro e w2 ⟨rfl, hw2⟩
        have hw2 := hw2.symm
        subst hw2
        go_wp2_with fail
        refine (H2.out _).mono ?_
        rintro e w3 ⟨rfl, hw3⟩
        have hw3 := hw3.symm
        subst hw3
        go_wp2_with fail
        go_ret
        exact ⟨rfl, nx hB hb1⟩
    · rw [decide_eq_false hb] at hi1
      have H1 := Lib.hid hi1; clear hi1
      rw [okT_2 hb]
      clear hr hb hi2
      unfold dv
      have hB := na (n0 w) (sixO d 22)
      have hD := At.new6 w d 22 rfl
      obtain ⟨e0, e1, e2, e3, e4, e5⟩ := hD.six
      go_enter Try.func73, Try.ntmps73
      go_wp2_with fail
      refine (Hc.out _).mono ?_
      rintro e w1 ⟨rfl, hb1⟩
      go_wp2_with fail
      refine (H1.out _).mono ?_
      rintro e w2 ⟨rfl, hw2⟩
      have hw2 := hw2.symm
      subst hw2
      go_wp2_with fail
      go_ret
      exact ⟨rfl, nx hB hb1⟩

theorem gain_st_le (f : Nat → Nat) (bad : Nat) {h n : Nat} (h10 : h ≤ 10) (hn : n ≤ 41) : gain (st f bad h) n ≤ 104083089260544 :=
  Nat.le_trans (gain_le (fun t => st_small f bad h10 t) n hn) (Nat.mul_le_mul_right _ hn)
theorem out_small {f : Nat → Nat} {bad h : Nat} (h1 : 1 ≤ h) (h10 : h ≤ 10) (t : Nat) : outS f bad h h t ≤ 6046617600 := Nat.le_trans (outS_le h1 h10 t h (Nat.le_refl _)) (Nat.mul_le_mul_right _ h10)
theorem gain_out_le {f : Nat → Nat} {bad h n : Nat} (h1 : 1 ≤ h) (h10 : h ≤ 10) (hn : n ≤ 41) : gain (outS f bad h h) n ≤ 10164364185600 :=
  Nat.le_trans (gain_le (fun t => out_small h1 h10 t) n hn) (Nat.mul_le_mul_right _ hn)

set_option maxRecDepth 100000 in
set_option maxHeartbeats 4000000 in
theorem implGain_any (d : Nat → Int) (f : Nat → Nat) (bad h : Nat) (w : World) (hd : faces d f) (h10 : h ≤ 10) :
    Calls Try.prog 78 #[dv d, .int .i64 bad, .int .i64 h] w fun e w' => e = .returned (.int .i64 (gain (st f bad h) 40 : Nat)) ∧ Below w.heap.size w w' := by
  have hc := fun w => implTurn_any d f bad h w hd h10
  unfold dv at hc
  have Hc := Lib.hid hc; clear hc hd
  have Hix : Hid (∀ (w : World) (k : Nat), k < 40 → (Instr.index 68 (Big40.tv (zv (st f bad h))) (.int .i64 k)).run Try.prog w = .ok (.int .i64 (st f bad h k : Nat)) w) := fun w k hk => run_index_vals (P := Try.prog) w 68 3 40 Try.underlying68 Try.underlying3 Try.sizeOf3 (zv (st f bad h)) hk
  have Hg := Lib.hid (fun n (hn : n ≤ 41) => gain_st_le f bad h10 hn)
  have Hss := Lib.hid (fun t => st_small f bad h10 t)
  have Hs : Hid (∀ n, gain (st f bad h) (n + 1) = gain (st f bad h) n + n * st f bad h n) := fun _ => rfl
  have Hg0 : Hid (gain (st f bad h) 0 = 0) := rfl
  generalize zv (st f bad h) = z at *
  generalize gain (st f bad h) = G at *
  generalize st f bad h = F at *
  unfold dv
  have hB := na (n0 w) (sixO d 22)
  have hD := At.new6 w d 22 rfl
  obtain ⟨e0, e1, e2, e3, e4, e5⟩ := hD.six
  go_enter Try.func78, Try.ntmps78
  go_wp2_with fail
  refine (Hc.out _).mono ?_
  rintro e w1 ⟨rfl, hb1⟩
  have hB1 := nx hB hb1
  clear e0 e1 e2 e3 e4 e5 hD hB hb1
  go_wp2_with fail
  go_loop [7, 14] (fun sv kv => ∃ k : Nat, k ≤ 40 ∧ kv = .int .i64 k ∧ sv = .int .i64 (G k : Nat)) (fun _ kv => 40 - (intOf kv).toNat)
  case atStart => exact ⟨0, by omega, rfl, by rw [Hg0.out]; rfl⟩
  case round =>
    obtain ⟨k, hk, rfl, rfl⟩ := hrel
    by_cases hlt : k < 40
    · have hit : decide ((k : Int) < 40) = true := decide_eq_true (by omega)
      have hix := fun w => Hix.out w k hlt
      have hs1 := Hg.out k (by omega)
      have hs2 := Hg.out (k + 1) (by omega)
      have hss := Hss.out k
      rw [Hs.out] at hs2
      obtain ⟨p, hp⟩ : ∃ p, k * F k = p := ⟨_, rfl⟩
      have hm : (k : Int) * (F k : Int) = (p : Int) := by rw [← hp]; push_cast; rfl
      have Hs1 := Lib.hid (Hs.out k)
      rw [hp] at hs2 Hs1
      clear hp
      generalize F k = u at *
      go_wp2_with fail
      go_round
      case rel => exact ⟨k + 1, by omega, by go_num, by rw [Hs1.out]; go_num⟩
      case measure => simp [intOf]; omega
    · obtain rfl : k = 40 := by omega
      have hit : decide ((40 : Int) < 40) = false := by decide
      go_wp2_with fail
      go_ret
      exact ⟨rfl, hB1⟩

set_option maxRecDepth 100000 in
set_option maxHeartbeats 4000000 in
theorem specHMean_any (d : Nat → Int) (f : Nat → Nat) (bad h : Nat) (w : World) (hd : faces d f) (h1 : 1 ≤ h) (h10 : h ≤ 10) :
    Calls Try.prog 77 #[dv d, .int .i64 bad, .int .i64 h] w fun e w' => e = .returned (v2 (num (gain (outS f bad h h) 41) (6 ^ h) : Nat) (den (gain (outS f bad h h) 41) (6 ^ h) : Nat)) ∧ Below w.heap.size w w' := by
  have hc := fun w => specEnds_any d f bad h w hd h1 h10
  unfold dv at hc
  have Hc := Lib.hid hc; clear hc hd
  have Ho := Lib.hid (fun w => l2AllL h w (by omega))
  rw [show all6 h = 6 ^ h from rfl] at Ho
  have hpw := pow_ten h10
  have Hg := Lib.hid (fun n (hn : n ≤ 41) => gain_out_le (f := f) (bad := bad) h1 h10 hn)
  have Hss := Lib.hid (fun t => out_small (f := f) (bad := bad) h1 h10 t)
  have Hs : Hid (∀ n, gain (outS f bad h h) (n + 1) = gain (outS f bad h h) n + n * outS f bad h h n) := fun _ => rfl
  have Hg0 : Hid (gain (outS f bad h h) 0 = 0) := rfl
  have Hcut : Hid (∀ w, Calls Try.prog 55 #[.int .i64 (gain (outS f bad h h) 41 : Nat), .int .i64 (6 ^ h : Nat)] w fun e w' => e = .returned (v2 (num (gain (outS f bad h h) 41) (6 ^ h) : Nat) (den (gain (outS f bad h h) 41) (6 ^ h) : Nat)) ∧ Below w.heap.size w w') := fun w => FracL.cutL _ _ w (by have := Hg.out 41 (by omega); omega) (by omega) hpw.2
  generalize num (gain (outS f bad h h) 41) (6 ^ h) = x0 at *
  generalize den (gain (outS f bad h h) 41) (6 ^ h) = y0 at *
  generalize gain (outS f bad h h) = G at *
  generalize outS f bad h h = F at *
  generalize 6 ^ h = V at *
  unfold dv
  have hB := na (na (n0 w) (sixO d 22)) (.cells #[.int .i64 0, .int .i64 0] 30)
  have hD := (At.new6 w d 22 rfl).past (.cells #[.int .i64 0, .int .i64 0] 30)
  have hRX := At.new2 (w.alloc (sixO d 22)) 30
  rw [size_alloc] at hRX
  obtain ⟨e0, e1, e2, e3, e4, e5⟩ := hD.six
  go_enter Try.func77, Try.ntmps77
  go_wp2_with fail
  refine (Hc.out _).mono ?_
  rintro e w1 ⟨rfl, hb1⟩
  have hB1 := nx hB hb1
  have hR1 := hRX.up hb1
  clear e0 e1 e2 e3 e4 e5 hD hB hRX hb1
  obtain ⟨w2, hst, hE2, hB2, hK2⟩ := Big41.store_ex (Big41.fresh w1 (b := w1.heap.size) rfl) (fun t => (F t : Int))
  have hB3 := (na hB1 (.cells #[.int .i64 0, .int .i64 0, .int .i64 0, .int .i64 0, .int .i64 0, .int .i64 0, .int .i64 0, .int .i64 0, .int .i64 0, .int .i64 0, .int .i64 0, .int .i64 0, .int .i64 0, .int .i64 0, .int .i64 0, .int .i64 0, .int .i64 0, .int .i64 0, .int .i64 0, .int .i64 0, .int .i64 0, .int .i64 0, .int .i64 0, .int .i64 0, .int .i64 0, .int .i64 0, .int .i64 0, .int .i64 0, .int .i64 0, .int .i64 0, .int .i64 0, .int .i64 0, .int .i64 0, .int .i64 0, .int .i64 0, .int .i64 0, .int .i64 0, .int .i64 0, .int .i64 0, .int .i64 0, .int .i64 0] 76)).trans (hB2 w.heap.size hB1.size)
  have hR3 := hK2 _ _ _ (Nat.ne_of_lt hR1.lt) (hR1.past (.cells #[.int .i64 0, .int .i64 0, .int .i64 0, .int .i64 0, .int .i64 0, .int .i64 0, .int .i64 0, .int .i64 0, .int .i64 0, .int .i64 0, .int .i64 0, .int .i64 0, .int .i64 0, .int .i64 0, .int .i64 0, .int .i64 0, .int .i64 0, .int .i64 0, .int .i64 0, .int .i64 0, .int .i64 0, .int .i64 0, .int .i64 0, .int .i64 0, .int .i64 0, .int .i64 0, .int .i64 0, .int .i64 0, .int .i64 0, .int .i64 0, .int .i64 0, .int .i64 0, .int .i64 0, .int .i64 0, .int .i64 0, .int .i64 0, .int .i64 0, .int .i64 0, .int .i64 0, .int .i64 0, .int .i64 0] 76))
  clear hB2 hK2 hB1 hR1
  go_wp2_with fail
  clear hst
  generalize w1.heap.size = b at *
  go_loop [7, 9] (fun sv kv => ∃ k : Nat, k ≤ 41 ∧ kv = .int .i64 k ∧ sv = .int .i64 (G k : Nat)) (fun _ kv => 41 - (intOf kv).toNat)
  case atStart => exact ⟨0, by omega, rfl, by rw [Hg0.out]; rfl⟩
  case round =>
    obtain ⟨k, hk, rfl, rfl⟩ := hrel
    by_cases hlt : k < 41
    · have hit : decide ((k : Int) < 41) = true := decide_eq_true (by omega)
      have ck := hE2.cell k hlt
      have hs1 := Hg.out k (by omega)
      have hs2 := Hg.out (k + 1) (by omega)
      have hss := Hss.out k
      rw [Hs.out] at hs2
      obtain ⟨p, hp⟩ : ∃ p, k * F k = p := ⟨_, rfl⟩
      have hm : (k : Int) * (F k : Int) = (p : Int) := by rw [← hp]; push_cast; rfl
      have Hs1 := Lib.hid (Hs.out k)
      rw [hp] at hs2 Hs1
      clear hp
      generalize F k = u at *
      go_wp2_with fail
      go_round
      case rel => exact ⟨k + 1, by omega, by go_num, by rw [Hs1.out]; go_num⟩
      case measure => simp [intOf]; omega
    · obtain rfl : k = 41 := by omega
      have hit : decide ((41 : Int) < 41) = false := by decide
      go_wp2_with fail
      refine (Ho.out _).mono ?_
      rintro e w4 ⟨rfl, hw4⟩
      have hw4 := hw4.symm
      subst hw4
      go_wp2_with fail
      refine (Hcut.out _).mono ?_
      rintro e w5 ⟨rfl, hb5⟩
      have hRX := hR3.up hb5
      have hB := nx hB3 hb5
      have c0 := hRX.cell 0 (by omega)
      have c1 := hRX.cell 1 (by omega)
      have z0 := hRX.free 0
      have z1 := hRX.free 1
      go_wp2_with fail
      refine ret_cell (b := w.heap.size + 1) (n := 2) (f := fr x0 y0) Try.results77 rfl Try.underlying30 (by kernel_rfl) (fin2' hRX _ _) rfl ⟨rfl, ?_⟩
      exact (hB.setCell (p := ⟨w.heap.size + 1, 0, none⟩) (Nat.le_succ _) _).setCell (p := ⟨w.heap.size + 1, 1, none⟩) (Nat.le_succ _) _


end HoldW
end Go.Proofs.Ytcffglnfdnanhaa
