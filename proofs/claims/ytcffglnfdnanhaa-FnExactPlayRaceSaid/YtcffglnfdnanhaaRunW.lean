/-
  Runners, goals; the mean number of rolls: contracts of both sides.
-/
import Derived.Test.YtcffglnfdnanhaaRows
import Derived.Test.YtcffglnfdnanhaaArr
import Derived.Test.YtcffglnfdnanhaaAnyR
import Derived.Test.YtcffglnfdnanhaaDieW
import Derived.Test.YtcffglnfdnanhaaSortW
import Derived.Test.YtcffglnfdnanhaaFracW
import Derived.Test.YtcffglnfdnanhaaFracL
import Derived.Test.YtcffglnfdnanhaaCutW
import Derived.Test.YtcffglnfdnanhaaAll6
import Derived.Test.YtcffglnfdnanhaaAllL
import Derived.Test.YtcffglnfdnanhaaOwnL
import Derived.Test.YtcffglnfdnanhaaFracM
import Derived.Test.YtcffglnfdnanhaaStopM
import Derived.Test.YtcffglnfdnanhaaRunM
import Derived.Test.YtcffglnfdnanhaaRunI
import Derived.Test.YtcffglnfdnanhaaRunS
import Derived.Test.YtcffglnfdnanhaaOpenD
import Derived.WalkKit
import Derived.WalkLawsBesides
import Derived.WalkSpells
import Derived.ProofKit
import Derived.OpenShut
import Derived.Deep.RegionWith
import Derived.Deep.QuietTactic
import Derived.BigQuiet
namespace Go.Proofs.Ytcffglnfdnanhaa
open Go.ChangeShapes Go.WideShapes Go.ChangeAt Go.RowKit
open Go.ChangeMaps (open_string shut_string)

namespace RunW
open Dice Arr DieW SortW FracW CutW All6 AllL OwnL FracM StopM RunM RunI RunS


/-- A die without a face 0; its faces. -/
def isRun (d : Nat → Int) : Bool := isDie d && decide (0 < d 0)
def face (d : Nat → Int) (j : Nat) : Nat := (d j).toNat
def okR (d : Nat → Int) (g : Int) : Bool := isRun d && decide (1 ≤ g ∧ g ≤ 8)
theorem faces_of {d : Nat → Int} (h : isRun d = true) : faces d (face d) := by
  simp only [isRun, Bool.and_eq_true, decide_eq_true_eq] at h
  have hu : upto d 6 := of_decide_eq_true h.1
  have h0 := h.2
  have u0 := hu 0 (by omega)
  have u1 := hu 1 (by omega)
  have u2 := hu 2 (by omega)
  have u3 := hu 3 (by omega)
  have u4 := hu 4 (by omega)
  have u5 := hu 5 (by omega)
  simp only [Nat.reduceSub] at u0 u1 u2 u3 u4 u5
  intro j hj
  unfold face
  obtain rfl | rfl | rfl | rfl | rfl | rfl : j = 0 ∨ j = 1 ∨ j = 2 ∨ j = 3 ∨ j = 4 ∨ j = 5 := by omega
  all_goals omega
theorem run_no1 {d : Nat → Int} (h : isDie d = false) : isRun d = false := by simp [isRun, h]
theorem run_no2 {d : Nat → Int} (h : ¬ 0 < d 0) : isRun d = false := by simp [isRun, h]
theorem run_yes {d : Nat → Int} (h : isDie d = true) (h0 : 0 < d 0) : isRun d = true := by simp [isRun, h, h0]
theorem okR_die {d : Nat → Int} {g : Int} (h : isRun d = false) : okR d g = false := by simp [okR, h]
theorem okR_lo {d : Nat → Int} {g : Int} (h : g < 1) : okR d g = false := by simp [okR]; intros; omega
theorem okR_hi {d : Nat → Int} {g : Int} (h : 8 < g) : okR d g = false := by simp [okR]; intros; omega
theorem okR_yes {d : Nat → Int} {g : Int} (h : isRun d = true) (h1 : 1 ≤ g) (h8 : g ≤ 8) : okR d g = true := by simp [okR, h, h1, h8]
theorem of_okR {d : Nat → Int} {g : Int} (h : okR d g = true) : isRun d = true ∧ 1 ≤ g ∧ g ≤ 8 := by
  simpa [okR] using h

set_option maxHeartbeats 2000000 in
theorem implRunner_any (d : Nat → Int) (w : World) :
    Calls Try.prog 64 #[dv d] w fun e w' => e = .returned (.bool (isRun d)) ∧ Below w.heap.size w w' := by
  have hc := implIsDie_any d
  unfold dv at hc
  have Hc := Lib.hid hc; clear hc
  unfold dv
  have hB0 := na (n0 w) (sixO d 22)
  have hD0 := At.new6 w d 22 rfl
  obtain ⟨e0, e1, e2, e3, e4, e5⟩ := hD0.six
  cases hd : isDie d
  · rw [hd] at Hc
    rw [run_no1 hd]
    clear hd
    go_enter Try.func64, Try.ntmps64
    go_wp2_with fail
    refine (Hc.out _).mono ?_
    rintro e w1 ⟨rfl, hb1⟩
    go_wp2_with fail
    go_ret
    exact ⟨rfl, nx hB0 hb1⟩
  · rw [hd] at Hc
    by_cases h0 : 0 < d 0
    · rw [run_yes hd h0]
      clear hd
      have hg : decide (0 < d 0) = true := decide_eq_true h0
      go_enter Try.func64, Try.ntmps64
      go_wp2_with fail
      refine (Hc.out _).mono ?_
      rintro e w1 ⟨rfl, hb1⟩
      have c0 := (hD0.up hb1).cell 0 (by omega)
      clear e0 e1 e2 e3 e4 e5
      go_wp2_with fail
      go_ret
      exact ⟨rfl, nx hB0 hb1⟩
    · rw [run_no2 h0]
      clear hd
      have hg : decide (0 < d 0) = false := decide_eq_false h0
      go_enter Try.func64, Try.ntmps64
      go_wp2_with fail
      refine (Hc.out _).mono ?_
      rintro e w1 ⟨rfl, hb1⟩
      have c0 := (hD0.up hb1).cell 0 (by omega)
      clear e0 e1 e2 e3 e4 e5
      go_wp2_with fail
      go_ret
      exact ⟨rfl, nx hB0 hb1⟩

set_option maxHeartbeats 2000000 in
theorem specRunner_any (d : Nat → Int) (w : World) :
    Calls Try.prog 52 #[dv d] w fun e w' => e = .returned (.bool (isRun d)) ∧ Below w.heap.size w w' := by
  have hc := l2Die_any d
  unfold dv at hc
  have Hc := Lib.hid hc; clear hc
  unfold dv
  have hB0 := na (n0 w) (sixO d 22)
  have hD0 := At.new6 w d 22 rfl
  obtain ⟨e0, e1, e2, e3, e4, e5⟩ := hD0.six
  cases hd : isDie d
  · rw [hd] at Hc
    rw [run_no1 hd]
    clear hd
    go_enter Try.func52, Try.ntmps52
    go_wp2_with fail
    refine (Hc.out _).mono ?_
    rintro e w1 ⟨rfl, hb1⟩
    go_wp2_with fail
    go_ret
    exact ⟨rfl, nx hB0 hb1⟩
  · rw [hd] at Hc
    by_cases h0 : 0 < d 0
    · rw [run_yes hd h0]
      clear hd
      have hg : decide (0 < d 0) = true := decide_eq_true h0
      go_enter Try.func52, Try.ntmps52
      go_wp2_with fail
      refine (Hc.out _).mono ?_
      rintro e w1 ⟨rfl, hb1⟩
      have c0 := (hD0.up hb1).cell 0 (by omega)
      clear e0 e1 e2 e3 e4 e5
      go_wp2_with fail
      go_ret
      exact ⟨rfl, nx hB0 hb1⟩
    · rw [run_no2 h0]
      clear hd
      have hg : decide (0 < d 0) = false := decide_eq_false h0
      go_enter Try.func52, Try.ntmps52
      go_wp2_with fail
      refine (Hc.out _).mono ?_
      rintro e w1 ⟨rfl, hb1⟩
      have c0 := (hD0.up hb1).cell 0 (by omega)
      clear e0 e1 e2 e3 e4 e5
      go_wp2_with fail
      go_ret
      exact ⟨rfl, nx hB0 hb1⟩

theorem specGoal_any (g : Int) (w : World) :
    Calls Try.prog 53 #[.int .i64 g] w fun e w' => e = .returned (.bool (decide (1 ≤ g ∧ g ≤ 8))) ∧ w' = w := by
  have Hin := Lib.hid (fun (x a b : Int) (w : World) => l1In_any x a b w)
  go_enter Try.func53, Try.ntmps53
  go_wp2_with fail
  refine (Hin.out _ _ _ _).mono ?_
  rintro e w1 ⟨rfl, hw1⟩
  have hw1 := hw1.symm
  subst hw1
  go_wp2_with fail
  go_ret
  exact ⟨by rw [Bool.decide_and]; rfl, rfl⟩

set_option maxHeartbeats 2000000 in
theorem canRun_any (d : Nat → Int) (g : Int) (w : World) :
    Calls Try.prog 57 #[dv d, .int .i64 g] w fun e w' => e = .returned (.bool (okR d g)) ∧ Below w.heap.size w w' := by
  have hc := implRunner_any d
  unfold dv at hc
  have Hc := Lib.hid hc; clear hc
  unfold dv
  have hB0 := na (n0 w) (sixO d 22)
  have hD0 := At.new6 w d 22 rfl
  obtain ⟨e0, e1, e2, e3, e4, e5⟩ := hD0.six
  cases hd : isRun d
  · rw [hd] at Hc
    rw [okR_die hd]
    clear hd
    go_enter Try.func57, Try.ntmps57
    go_wp2_with fail
    refine (Hc.out _).mono ?_
    rintro e w1 ⟨rfl, hb1⟩
    go_wp2_with fail
    go_ret
    exact ⟨rfl, nx hB0 hb1⟩
  · rw [hd] at Hc
    by_cases h1 : g < 1
    · rw [okR_lo h1]
      clear hd
      have g1 : decide (1 ≤ g) = false := decide_eq_false (by omega)
      go_enter Try.func57, Try.ntmps57
      go_wp2_with fail
      refine (Hc.out _).mono ?_
      rintro e w1 ⟨rfl, hb1⟩
      go_wp2_with fail
      go_ret
      exact ⟨rfl, nx hB0 hb1⟩
    · have g1 : decide (1 ≤ g) = true := decide_eq_true (by omega)
      by_cases h8 : 8 < g
      · rw [okR_hi h8]
        clear hd
        have g2 : decide (g ≤ 8) = false := decide_eq_false (by omega)
        go_enter Try.func57, Try.ntmps57
        go_wp2_with fail
        refine (Hc.out _).mono ?_
        rintro e w1 ⟨rfl, hb1⟩
        go_wp2_with fail
        go_ret
        exact ⟨rfl, nx hB0 hb1⟩
      · rw [okR_yes hd (by omega) (by omega)]
        clear hd
        have g2 : decide (g ≤ 8) = true := decide_eq_true (by omega)
        go_enter Try.func57, Try.ntmps57
        go_wp2_with fail
        refine (Hc.out _).mono ?_
        rintro e w1 ⟨rfl, hb1⟩
        go_wp2_with fail
        go_ret
        exact ⟨rfl, nx hB0 hb1⟩

theorem wone {p : Nat} (hp : p ≤ 1000000000000000) : IntKind.i64.wrap (p : Int) = (p : Int) ∧ wrap64 (p : Int) = (p : Int) := by
  constructor
  · exact FracL.wrap_sameL _ (by omega) (by omega)
  · unfold wrap64; omega
theorem wmul {a b p : Nat} (h : a * b = p) (hp : p ≤ 1000000000000000) : IntKind.i64.wrap ((a : Int) * (b : Int)) = (p : Int) ∧ wrap64 ((a : Int) * (b : Int)) = (p : Int) := by
  rw [← Int.natCast_mul, h]
  exact wone hp
theorem wadd {a b p : Nat} (h : a + b = p) (hp : p ≤ 1000000000000000) : IntKind.i64.wrap ((a : Int) + (b : Int)) = (p : Int) ∧ wrap64 ((a : Int) + (b : Int)) = (p : Int) := by
  rw [← Int.natCast_add, h]
  exact wone hp
theorem wsub {a b p : Nat} (h : a = b + p) (hp : p ≤ 1000000000000000) : IntKind.i64.wrap ((a : Int) - (b : Int)) = (p : Int) ∧ wrap64 ((a : Int) - (b : Int)) = (p : Int) := by
  have e : (a : Int) - (b : Int) = (p : Int) := by omega
  rw [e]
  exact wone hp

set_option maxRecDepth 100000 in
set_option maxHeartbeats 4000000 in
theorem implRolls_any (d : Nat → Int) (f : Nat → Nat) (g : Nat) (w : World) (hd : faces d f) (h1 : 1 ≤ g) (h8 : g ≤ 8) :
    Calls Try.prog 62 #[dv d, .int .i64 g] w fun e w' => e = .returned (.int .i64 (rolls f g g : Nat)) ∧ Below w.heap.size w w' := by
  have hc := fun w => implEnds_any d f g w hd h1 h8
  unfold dv at hc
  have Hc := Lib.hid hc; clear hc hd
  unfold dv
  have hB0 := na (n0 w) (sixO d 22)
  have hD0 := At.new6 w d 22 rfl
  obtain ⟨e0, e1, e2, e3, e4, e5⟩ := hD0.six
  go_enter Try.func62, Try.ntmps62
  go_wp2_with fail
  refine (Hc.out _).mono ?_
  rintro e w1 ⟨b, rfl, hb, hA, hb1⟩
  have hB1 := nx hB0 hb1
  clear e0 e1 e2 e3 e4 e5 hD0 hb hb1 hB0
  go_wp2_with fail
  go_loop [5, 12] (fun sv kv => ∃ k : Nat, k ≤ g ∧ kv = .int .i64 k ∧ sv = .int .i64 (rolls f g k : Nat)) (fun _ kv => g - (intOf kv).toNat)
  case atStart => exact ⟨0, by omega, rfl, rfl⟩
  case round =>
    obtain ⟨k, hk, rfl, rfl⟩ := hrel
    by_cases hlt : k < g
    · have hit : decide ((k : Int) < (g : Int)) = true := decide_eq_true (by omega)
      have ck := hA.cell k hlt
      have hr1 := rolls_le f (n := k) h1 h8 (by omega)
      have hr2 := rolls_le f (n := k + 1) h1 h8 hlt
      have hs : Hid (rolls f g (k + 1) = rolls f g k + (k + 1) * ends f g k) := rfl
      rw [hs.out] at hr2
      have he := ends_one f h1 h8 hlt
      obtain ⟨p, hp⟩ : ∃ p, p = (k + 1) * ends f g k := ⟨_, rfl⟩
      rw [← hp] at hs hr2
      have hm : ((k : Int) + 1) * (ends f g k : Int) = (p : Int) := by rw [hp]; push_cast; rfl
      have Hp := Lib.hid hp; clear hp
      generalize ends f g k = x at *
      go_wp2_with fail
      go_round
      case rel => exact ⟨k + 1, by omega, by go_num, by rw [hs.out]; go_num⟩
      case measure => simp [intOf]; omega
    · obtain rfl : k = g := by omega
      have hit : decide ((k : Int) < (k : Int)) = false := decide_eq_false (by omega)
      go_wp2_with fail
      go_ret
      exact ⟨rfl, hB1⟩

set_option maxRecDepth 100000 in
set_option maxHeartbeats 4000000 in
theorem specMean_any (d : Nat → Int) (f : Nat → Nat) (g : Nat) (w : World) (hd : faces d f) (h1 : 1 ≤ g) (h8 : g ≤ 8) :
    Calls Try.prog 61 #[dv d, .int .i64 g] w fun e w' => e = .returned (v2 (num (top f g g) (6 ^ g) : Nat) (den (top f g g) (6 ^ g) : Nat)) ∧ Below w.heap.size w w' := by
  have hc := fun w => specRun_any d f g w hd h1 h8
  unfold dv at hc
  have Hc := Lib.hid hc; clear hc hd
  have Hall := Lib.hid (fun n w (h : n ≤ 16) => l2AllL n w h)
  have hpg := pow_six h8
  have hcut := fun w => FracL.cutL (top f g g) (6 ^ g) w (by have := top_le f h1 h8 (Nat.le_refl g); omega) (by omega) hpg.2
  have Hcut : Hid (∀ w, Calls Try.prog 55 #[.int .i64 (top f g g : Nat), .int .i64 (6 ^ g : Nat)] w fun e w' => e = .returned (v2 (num (top f g g) (6 ^ g) : Nat) (den (top f g g) (6 ^ g) : Nat)) ∧ Below w.heap.size w w') := hcut
  clear hcut
  generalize num (top f g g) (6 ^ g) = x0 at *
  generalize den (top f g g) (6 ^ g) = y0 at *
  unfold dv
  have hB0 := na (na (n0 w) (sixO d 22)) (.cells #[.int .i64 0, .int .i64 0] 30)
  have hD0 := (At.new6 w d 22 rfl).past (.cells #[.int .i64 0, .int .i64 0] 30)
  have hR0 := At.new2 (w.alloc (sixO d 22)) 30
  rw [size_alloc] at hR0
  obtain ⟨e0, e1, e2, e3, e4, e5⟩ := hD0.six
  go_enter Try.func61, Try.ntmps61
  go_wp2_with fail
  refine (Hc.out _).mono ?_
  rintro e w1 ⟨b, c, rfl, hb, hA, hb1⟩
  have hB1 := nx hB0 hb1
  have hR1 := hR0.up hb1
  have hbl := hA.lt
  clear e0 e1 e2 e3 e4 e5 hD0 hR0 hb1 hB0
  go_wp2_with fail
  go_loopw [5, 7] (fun sv kv wr => ∃ k n : Nat, (n ≤ k + 1 ∧ k + 1 ≤ n) ∧ k ≤ g ∧ kv = .int .i64 n ∧ sv = .int .i64 (top f g k : Nat) ∧ Below w1.heap.size w1 wr) (fun _ kv _ => g + 1 - (intOf kv).toNat)
  case atStart => exact ⟨0, 1, by omega, by omega, rfl, rfl, n0 _⟩
  case round =>
    obtain ⟨k, n, ⟨hn1, hn2⟩, hk, rfl, rfl, hB⟩ := hrel
    by_cases hlt : k < g
    · have hit : decide ((n : Int) ≤ (g : Int)) = true := decide_eq_true (by omega)
      have ck := (hA.up hB).cell n (by omega)
      have hn : n = k + 1 := by omega
      have eo : outF f g n = ((T f g k : Nat) : Int) := by subst hn; rfl
      rw [eo] at ck
      clear eo
      have ht1 := top_le f (n := k) h1 h8 (by omega)
      have ht2 := top_le f (n := k + 1) h1 h8 hlt
      have hs : Hid (top f g (k + 1) = top f g k + (k + 1) * T f g k * 6 ^ (g - 1 - k)) := rfl
      rw [hs.out] at ht2
      obtain ⟨e, he⟩ : ∃ e, e = g - 1 - k := ⟨_, rfl⟩
      rw [← he, ← hn] at hs ht2
      clear hn
      have hsub := wsub (a := g) (b := n) (p := e) (by omega) (by omega)
      have Ho := Lib.hid (fun w => Hall.out e w (by omega))
      rw [show all6 e = 6 ^ e from rfl] at Ho
      obtain ⟨p1, hp1⟩ : ∃ p, n * T f g k = p := ⟨_, rfl⟩
      obtain ⟨p2, hp2⟩ : ∃ p, p1 * 6 ^ e = p := ⟨_, rfl⟩
      rw [hp1, hp2] at hs ht2
      have hep := (pow_six (show e ≤ 8 by omega)).2
      have hp12 : p1 ≤ p2 := by rw [← hp2]; exact Nat.le_mul_of_pos_right _ hep
      obtain ⟨s2, hs2⟩ : ∃ s2, top f g k + p2 = s2 := ⟨_, rfl⟩
      rw [hs2] at hs ht2
      have m1 := wmul hp1 (by omega)
      have m2 := wmul hp2 (by omega)
      have m3 := wadd hs2 (by omega)
      have Q := Lib.hid (And.intro he (And.intro hp1 (And.intro hp2 hs2)))
      clear he hp1 hp2 hs2
      obtain ⟨m11, m12⟩ := m1
      obtain ⟨m21, m22⟩ := m2
      obtain ⟨m31, m32⟩ := m3
      obtain ⟨m41, m42⟩ := hsub
      generalize T f g k = t at *
      generalize 6 ^ e = W at *
      go_wp2_with fail
      go_quiet ((go_at_call 56; exact Calls.quiet_of_same (Ho.out _)))
      go_wp2_with fail
      go_roundw
      case rel => exact ⟨k + 1, n + 1, by omega, by omega, by go_num, by rw [show k + 1 = n by omega, hs.out], below_drewN hB _⟩
      case measure => simp [intOf]; omega
    · obtain rfl : k = g := by omega
      have hit : decide ((n : Int) ≤ (k : Int)) = false := decide_eq_false (by omega)
      have Ho := Lib.hid (fun w => Hall.out k w (by omega))
      rw [show all6 k = 6 ^ k from rfl] at Ho
      have hR2 := hR1.up hB
      have hB2 := nx hB1 hB
      clear hA hR1 hB1 hB
      go_wp2_with fail
      refine (Ho.out _).mono ?_
      rintro e w3 ⟨rfl, hw3⟩
      have hw3 := hw3.symm
      subst hw3
      go_wp2_with fail
      refine (Hcut.out _).mono ?_
      rintro e w4 ⟨rfl, hb4⟩
      have hB4 := nx hB2 hb4
      have hR4 := hR2.up hb4
      have c0 := hR4.cell 0 (by omega)
      have c1 := hR4.cell 1 (by omega)
      have z0 := hR4.free 0
      have z1 := hR4.free 1
      go_wp2_with fail
      refine ret_cell (b := w.heap.size + 1) (n := 2) (f := fr x0 y0) Try.results61 rfl Try.underlying30 (by kernel_rfl) (fin2' hR4 _ _) rfl ⟨rfl, ?_⟩
      exact (hB4.setCell (p := ⟨w.heap.size + 1, 0, none⟩) (Nat.le_succ _) _).setCell (p := ⟨w.heap.size + 1, 1, none⟩) (Nat.le_succ _) _


end RunW
end Go.Proofs.Ytcffglnfdnanhaa
