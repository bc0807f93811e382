/-
  StopMeans, by the specification.
-/
import Derived.Test.YtojeokakehbaeaaRows
import Derived.Test.YtojeokakehbaeaaArr
import Derived.Test.YtojeokakehbaeaaAnyR
import Derived.Test.YtojeokakehbaeaaDieW
import Derived.Test.YtojeokakehbaeaaFracW
import Derived.Test.YtojeokakehbaeaaSortW
import Derived.Test.YtojeokakehbaeaaOpenD
import Derived.Test.YtojeokakehbaeaaOwnL
import Derived.Test.YtojeokakehbaeaaMarkG
import Derived.Test.YtojeokakehbaeaaFracM
import Derived.Test.YtojeokakehbaeaaStopM
import Derived.Test.YtojeokakehbaeaaCutW
import Derived.Test.YtojeokakehbaeaaGoalW
import Derived.Test.YtojeokakehbaeaaFracB
import Derived.Test.YtojeokakehbaeaaMeansL
import Derived.Test.YtojeokakehbaeaaDice
import Derived.Test.YtojeokakehbaeaaOpenD
import Derived.WalkKit
import Derived.OwnWalk
import Derived.Lib.AppendZeros
import Derived.Lib.MinMax
import Derived.Deep.WholeRow
import Derived.Deep.AppendLies
import Derived.FnLit
import Derived.WalkKit
import Derived.Deep.WholeRow
import Derived.Deep.RegionHeld3
import Derived.Deep.AppendLies
import Derived.WalkLawsBesides
import Derived.WalkSpells
import Derived.ProofKit
import Derived.OpenShut
import Derived.Deep.RegionWith
import Derived.Deep.QuietTactic
import Derived.BigQuiet
import Derived.WalkLawsBesides
import Derived.WalkSpells
import Derived.ProofKit
import Derived.OpenShut
import Derived.Deep.RegionWith
import Derived.Deep.QuietTactic
import Derived.BigQuiet
namespace Go.Proofs.Ytojeokakehbaeaa
open Go.ChangeShapes Go.WideShapes Go.ChangeAt Go.RowKit
open Go.Deep
open Go.ChangeMaps (open_string shut_string)

namespace StopS
open Dice Arr OpenD DieW SortW FracW MarkG FracM OwnL CutW GoalW FracB MeansL


theorem ok_out {d : Nat → Int} {n : Int} (h : n < 1 ∨ 6 < n) : okM d n = false := by
  rcases h with h | h
  · exact ok_lo h
  · exact ok_hi h
theorem part_small {f : Nat → Nat} (h : ∀ j, j < 6 → f j ≤ 30) {i k : Nat} (hi : i ≤ 6) (hk : k < 6) : StopM.part f (StopM.ahead f i) (6 ^ i) k ≤ 1399680 := Nat.le_trans (StopM.part_le (m := 30) (h k hk) (StopM.ahead_le h i)) (Nat.mul_le_mul_left 30 (StopM.pow_le hi))
theorem mul_small {a b : Nat} (ha : a ≤ 10000000) (hb : b ≤ 300000) : a * b ≤ 3000000000000 := Nat.mul_le_mul ha hb
theorem times_stop {x W V : Nat} (hW : 0 < W) (hV : V = W * 6) (hx : x ≤ 1399680) (hw : W ≤ 46656) (w : World) :
    Calls Try.prog 16 #[v2 (num x W : Nat) (den x W : Nat), v2 1 6] w fun e w' => e = .returned (v2 (num x V : Nat) (den x V : Nat)) ∧ Below w.heap.size w w' := by
  have h := times_any (num x W) (den x W) 1 6 w (by have := num_le x W; omega) (by have := den_le x W; omega) (by have := den_pos (a := x) hW; omega)
  have e := StopM.sixth (x := x) hW
  rw [← hV] at e
  have e2 : cutV (num x W * 1) (den x W * 6) = v2 (num x V : Nat) (den x V : Nat) := by
    show v2 (num (num x W * 1) (den x W * 6) : Nat) (den (num x W * 1) (den x W * 6) : Nat) = _
    rw [e.1, e.2]
  rw [e2] at h
  exact h
theorem plus_stop {x y V : Nat} (hV : 0 < V) (hx : x ≤ 8398080) (hy : y ≤ 1399680) (hv : V ≤ 46656) (w : World) :
    Calls Try.prog 15 #[v2 (num x V : Nat) (den x V : Nat), v2 (num y V : Nat) (den y V : Nat)] w fun e w' => e = .returned (v2 (num (x + y) V : Nat) (den (x + y) V : Nat)) ∧ Below w.heap.size w w' := by
  have b1 := num_le x V
  have b2 := den_le x V
  have b3 := num_le y V
  have b4 := den_le y V
  have h1 := mul_small (a := num x V) (b := den y V) (by omega) (by omega)
  have h2 := mul_small (a := num y V) (b := den x V) (by omega) (by omega)
  have h3 := mul_small (a := den x V) (b := den y V) (by omega) (by omega)
  have h4 := Nat.mul_pos (den_pos (a := x) hV) (den_pos (a := y) hV)
  have h := plus_any (num x V) (den x V) (num y V) (den y V) w (by omega) (by omega) h4
  have e := StopM.add_same (x := x) (y := y) hV
  have e2 : cutV (num x V * den y V + num y V * den x V) (den x V * den y V) = v2 (num (x + y) V : Nat) (den (x + y) V : Nat) := by
    show v2 (num (num x V * den y V + num y V * den x V) (den x V * den y V) : Nat) (den (num x V * den y V + num y V * den x V) (den x V * den y V) : Nat) = _
    rw [e.1, e.2]
  rw [e2] at h
  exact h
theorem less_stop {x A W : Nat} (hW : 0 < W) (hx : x ≤ 30) (hA : A ≤ 1399680) (hw : W ≤ 46656) (w : World) :
    Calls Try.prog 10 #[v2 (x : Int) 1, v2 (num A W : Nat) (den A W : Nat)] w fun e w' => e = .returned (.bool (decide (x * den A W < num A W))) ∧ Below w.heap.size w w' := by
  have b1 := num_le A W
  have b2 := den_le A W
  have h1 := mul_small (a := x) (b := den A W) (by omega) (by omega)
  have h := less_any x 1 (num A W) (den A W) w (by omega) (by omega)
  rw [Nat.mul_one] at h
  exact h

set_option maxRecDepth 100000 in
set_option maxHeartbeats 8000000 in
theorem sstopNo1 (d : Nat → Int) (n : Int) (w : World) (hd : isDie d = false) :
    Calls Try.prog 9 #[dv d, .int .i64 n] w fun e w' => ∃ A c, e = .returned (.tuple #[.slice A (lenM d n) c, .bool (okM d n)]) ∧ Pairs w.heap.size w' A (lenM d n) (sf (face d)) ∧ Below w.heap.size w w' := by
  have hc := l2Die_any d
  rw [hd] at hc
  have hl : lenM d n = 0 := by unfold lenM; rw [ok_die hd]; rfl
  rw [hl, ok_die hd]
  unfold dv at hc
  have Hc := Lib.hid hc; clear hc hl
  unfold dv
  have hB0 := na (na (n0 w) (sixO d 22)) (.cells #[] 33)
  have hD0 := (At.new6 w d 22 rfl).past (.cells #[] 33)
  clear hd
  go_enter Try.func9, Try.ntmps9
  obtain ⟨e0, e1, e2, e3, e4, e5⟩ := hD0.six
  go_wp2_with fail
  refine (Hc.out _).mono ?_
  rintro e w1 ⟨rfl, hb1⟩
  go_wp2_with fail
  go_ret2
  exact ⟨_, _, rfl, .inl rfl, nx hB0 hb1⟩

set_option maxRecDepth 100000 in
set_option maxHeartbeats 8000000 in
theorem sstopNo2 (d : Nat → Int) (n : Int) (w : World) (hd : isDie d = true) (h : n < 1 ∨ 6 < n) :
    Calls Try.prog 9 #[dv d, .int .i64 n] w fun e w' => ∃ A c, e = .returned (.tuple #[.slice A (lenM d n) c, .bool (okM d n)]) ∧ Pairs w.heap.size w' A (lenM d n) (sf (face d)) ∧ Below w.heap.size w w' := by
  have hc := l2Die_any d
  rw [hd] at hc
  have hl : lenM d n = 0 := by unfold lenM; rw [ok_out h]; rfl
  rw [hl, ok_out h]
  unfold dv at hc
  have Hc := Lib.hid hc; clear hc hl
  have hin := l1In_any n 1 6
  rw [show decide (1 ≤ n ∧ n ≤ 6) = false from decide_eq_false (by omega)] at hin
  have Hin : Hid (∀ w, Calls Try.prog 8 #[.int .i64 n, .int .i64 1, .int .i64 6] w fun e w' => e = .returned (.bool false) ∧ w' = w) := Lib.hid hin
  clear hin
  unfold dv
  have hB0 := na (na (n0 w) (sixO d 22)) (.cells #[] 33)
  have hD0 := (At.new6 w d 22 rfl).past (.cells #[] 33)
  clear hd
  go_enter Try.func9, Try.ntmps9
  obtain ⟨e0, e1, e2, e3, e4, e5⟩ := hD0.six
  go_wp2_with fail
  refine (Hc.out _).mono ?_
  rintro e w1 ⟨rfl, hb1⟩
  go_wp2_with fail
  refine (Hin.out _).mono ?_
  rintro e w2 ⟨rfl, rfl⟩
  go_wp2_with fail
  go_ret2
  exact ⟨_, _, rfl, .inl rfl, nx hB0 hb1⟩

set_option maxRecDepth 100000 in
set_option maxHeartbeats 16000000 in
theorem sstopYes (d : Nat → Int) (n : Nat) (w : World) (hd : isDie d = true) (h1 : 1 ≤ n) (h6 : n ≤ 6) :
    Calls Try.prog 9 #[dv d, .int .i64 n] w fun e w' => ∃ A c, e = .returned (.tuple #[.slice A n c, .bool true]) ∧ Pairs w.heap.size w' A n (sf (face d)) ∧ Below w.heap.size w w' := by
  have hc := l2Die_any d
  rw [hd] at hc
  unfold dv at hc
  have Hc := Lib.hid hc; clear hc
  have hin := l1In_any (n : Int) 1 6
  rw [show decide (1 ≤ (n : Int) ∧ (n : Int) ≤ 6) = true from decide_eq_true (by omega)] at hin
  have Hin := Lib.hid hin; clear hin
  have Hfe := Lib.hid (fun k (hk : k < 6) => face_eq hd hk)
  have hf30 := fun j (hj : j < 6) => (face_eq hd hj).2
  have Has := Lib.hid (fun k (hk : k ≤ 6) => ahead_small (f := face d) hf30 hk)
  have Hss := Lib.hid (fun i k (hi : i ≤ 6) (hk : k ≤ 6) => sum_small (f := face d) hf30 hi hk)
  have Hps := Lib.hid (fun i k (hi : i ≤ 6) (hk : k < 6) => part_small (f := face d) hf30 hi hk)
  clear hf30 hd
  generalize face d = f at *
  obtain ⟨i2, hi2, hz0, hz1, hz2⟩ := info_parts info2
  have H2 := Lib.hid (And.intro hi2 (And.intro hz0 (And.intro hz1 hz2)))
  clear hi2 hz0 hz1 hz2
  unfold dv
  have hB0 := na (na (n0 w) (sixO d 22)) (.cells #[] 33)
  have hD0 := (At.new6 w d 22 rfl).past (.cells #[] 33)
  have hO0 : ((w.alloc (sixO d 22)).alloc (.cells #[] 33)).ownsRow (w.heap.size + 1) 33 2 (.slice (some ⟨w.heap.size + 1, 0, none⟩) 0 0) 0 [] := by
    have := World.ownsRow_made (w.alloc (sixO d 22)) (e := 33) (size := 2) #[] 0 (Nat.le_refl _) (by decide) rfl
    rw [size_alloc] at this
    exact this
  have hE0 : At ((w.alloc (sixO d 22)).alloc (.cells #[] 33)) (w.heap.size + 1) 0 (fun _ => 0) := by
    have := At.new (w.alloc (sixO d 22)) #[] 33 0 (fun _ => 0) (fun k hk => by omega)
    rw [size_alloc] at this
    exact this
  go_enter Try.func9, Try.ntmps9
  obtain ⟨e0, e1, e2, e3, e4, e5⟩ := hD0.six
  go_wp2_with fail
  refine (Hc.out _).mono ?_
  rintro e w1 ⟨rfl, hb1⟩
  have hB1 := nx hB0 hb1
  have hD1 := hD0.up hb1
  have hO1 := own_up hO0 hb1
  have hs1 : w.heap.size + 1 + 1 ≤ w1.heap.size := (hE0.up hb1).lt
  clear e0 e1 e2 e3 e4 e5 hB0 hD0 hb1 hO0 hE0
  go_wp2_with fail
  refine (Hin.out _).mono ?_
  rintro e w2 ⟨rfl, hw2⟩
  have hw2 := hw2.symm
  subst hw2
  go_wp2_with fail
  go_loopw [6, 7] (fun mv iv wr => ∃ i : Nat, i ≤ n ∧ iv = .int .i64 i ∧ wr.ownsRow (w.heap.size + 1) 33 2 mv i (vals (i * 2) (sf f)) ∧ Below (w.heap.size + 1) w1 wr) (fun _ iv _ => n - (intOf iv).toNat)
  case atStart => exact ⟨0, by omega, rfl, hO1, Below.refl _ _⟩
  case round =>
    obtain ⟨W0, rfl⟩ : ∃ W0, W0 = wr := ⟨wr, rfl⟩
    clear hO1
    obtain ⟨i, hi, rfl, hO, hB⟩ := hrel
    by_cases hlt : i < n
    · have hit : decide ((i : Int) < (n : Int)) = true := decide_eq_true (by omega)
      have hs1r : w.heap.size + 1 + 1 ≤ W0.heap.size := Nat.le_trans hs1 hB.size
      have hDr : At W0 w.heap.size 6 d := hD1.below (Nat.lt_succ_self _) hB
      have hW := StopM.pow_le (show i ≤ 6 by omega)
      have hV := StopM.pow_le (show i + 1 ≤ 6 by omega)
      have hWp := StopM.pow_pos i
      have hVp := StopM.pow_pos (i + 1)
      have hA := Has.out i (by omega)
      have hS6 : Hid (StopM.ahead f (i + 1) = StopM.nsum (StopM.part f (StopM.ahead f i) (6 ^ i)) 6) := rfl
      have Hsn := Lib.hid (sf_snoc f i)
      have Hss1 := Lib.hid (fun k (hk : k ≤ 6) => Hss.out i k (by omega) hk)
      have Hps1 := Lib.hid (fun k (hk : k < 6) => Hps.out i k (by omega) hk)
      have hVe : 6 ^ (i + 1) = 6 ^ i * 6 := Nat.pow_succ 6 i
      have Hz := Lib.hid (show i = 0 → StopM.ahead f i = 0 ∧ 6 ^ i = 1 from fun h => by subst h; exact ⟨rfl, rfl⟩)
      have Hpr := Lib.hid (show ∀ i1, i = i1 + 1 → sf f (i1 * 2) = ((num (StopM.ahead f i) (6 ^ i) : Nat) : Int) ∧ sf f (i1 * 2 + 1) = ((den (StopM.ahead f i) (6 ^ i) : Nat) : Int) from fun i1 h => by subst h; exact ⟨sf_lo f i1, sf_hi f i1⟩)
      generalize StopM.ahead f (i + 1) = A1 at *
      generalize 6 ^ (i + 1) = V at *
      generalize StopM.ahead f i = A at *
      generalize 6 ^ i = W at *
      obtain ⟨A9, c9, rfl, hPr⟩ := pairs_own hO
      have hS0 := At.newGb W0 0 1 33 rfl
      have hBx0 := na (n0 W0) (.cells #[.int .i64 0, .int .i64 1] 33)
      go_wp2_with fail
      go_loopw [9] (fun kv wx => ∃ k : Nat, k ≤ 6 ∧ kv = .int .i64 k ∧ At wx W0.heap.size 2 (fr (num (StopM.nsum (StopM.part f A W) k) V : Nat) (den (StopM.nsum (StopM.part f A W) k) V : Nat)) ∧ Below W0.heap.size W0 wx) (fun kv _ => 6 - (intOf kv).toNat)
      case atStart =>
        refine ⟨0, by omega, rfl, ?_, hBx0⟩
        rw [show StopM.nsum (StopM.part f A W) 0 = 0 from rfl, (StopM.zero_cut hVp).1, (StopM.zero_cut hVp).2]
        exact hS0
      case round =>
        clear hS0 hBx0
        obtain ⟨k, hk, rfl, hSx, hBx⟩ := hrel
        by_cases hlk : k < 6
        · obtain ⟨hdk, hfk⟩ := Hfe.out k hlk
          have hcut := StopM.face_cut (f := f) (A := A) (W := W) (j := k) hWp
          have hp := Hps1.out k hlk
          have hs := Hss1.out k (by omega)
          have hs' := Hss1.out (k + 1) (by omega)
          have hn1 : StopM.nsum (StopM.part f A W) (k + 1) = StopM.nsum (StopM.part f A W) k + StopM.part f A W k := rfl
          have htm := times_stop (x := StopM.part f A W k) hWp hVe (by omega) hW
          have hpl := plus_stop (x := StopM.nsum (StopM.part f A W) k) (y := StopM.part f A W k) hVp (by omega) (by omega) hV
          rw [← hn1] at hpl
          have hls0 := less_stop (x := f k) (A := A) (W := W) hWp hfk (by omega) hW
          have Htm := Lib.hid htm
          have Hpl := Lib.hid hpl
          have Hls := Lib.hid hls0
          clear htm hpl hls0 hp hs hs' hn1
          have hfb : f k ≤ 30 := hfk
          generalize num (StopM.part f A W k) V = tn at *
          generalize den (StopM.part f A W k) V = td at *
          obtain ⟨pn, hpn⟩ : ∃ x, x = num (StopM.part f A W k) W := ⟨_, rfl⟩
          obtain ⟨pd, hpd⟩ : ∃ x, x = den (StopM.part f A W k) W := ⟨_, rfl⟩
          rw [← hpn, ← hpd] at Htm hcut
          clear hpn hpd
          obtain ⟨un, hun⟩ : ∃ x, x = num (StopM.nsum (StopM.part f A W) (k + 1)) V := ⟨_, rfl⟩
          obtain ⟨ud, hud⟩ : ∃ x, x = den (StopM.nsum (StopM.part f A W) (k + 1)) V := ⟨_, rfl⟩
          rw [← hun, ← hud] at Hpl
          have Hq := Lib.hid (And.intro hun hud); clear hun hud
          generalize num (StopM.nsum (StopM.part f A W) k) V = sn at *
          generalize den (StopM.nsum (StopM.part f A W) k) V = sd at *
          have cd := (hDr.up hBx).cell k hlk
          rw [hdk] at cd
          clear hdk
          have hle : W0.heap.size ≤ wr.heap.size := hBx.size
          have hne : W0.heap.size ≠ wr.heap.size := Nat.ne_of_lt hSx.lt
          have hF0 := At.newGb wr (f k : Int) 1 33 rfl
          have hSy := hSx.past (.cells #[.int .i64 (f k : Int), .int .i64 1] 33)
          have hBy := na hBx (.cells #[.int .i64 (f k : Int), .int .i64 1] 33)
          generalize f k = fk at *
          rcases Nat.eq_zero_or_pos i with h0 | h0
          · have hA0 := (Hz.out h0).1
            have hW0 := (Hz.out h0).2
            rw [if_neg (by rw [hA0, hW0, (FracM.num_one 0).1]; omega)] at hcut
            obtain ⟨hpn, hpd⟩ := Prod.mk.inj hcut
            have hg0 : decide ((0 : Int) < (i : Int)) = false := decide_eq_false (by omega)
            have hg1 : decide (0 < i) = false := decide_eq_false (by omega)
            clear hA0 hW0 hcut Hls h0
            have hS9 := hSy.drew
            have hB9 := hBy.drew
            have hF9 : At (wr.alloc (.cells #[.int .i64 (fk : Int), .int .i64 1] 33)).drew wr.heap.size 2 (fr (pn : Int) (pd : Int)) := by rw [hpn, hpd]; exact hF0.drew
            clear hSy hBy hF0 hpn hpd
            go_wp2_with fail
            go_region
            generalize (wr.alloc (.cells #[.int .i64 (fk : Int), .int .i64 1] 33)).drew = W9 at *
            go_wp2_with fail
            try clear hVe
            try clear hA
            try clear hWp
            try clear hVp
            try clear hW
            try clear hV
            try clear hfb
            try clear hfk
            try clear hw
            try clear hn0
            try clear hii
            try clear hn3
            try clear hn4
            try clear hn1
            try clear hgt
            try clear hit
            try clear ei
            try clear h0
            try clear hk
            try clear HF
            try clear HL
            try clear HSy
            try clear HBy
            try clear Hpr1
            try clear hb8
            try clear Hls
            try clear Hss
            try clear Hps
            try clear Has
            try clear Hfe
            have q0 := hS9.cell 0 (by decide)
            have q1 := hS9.cell 1 (by decide)
            rw [show fr (sn : Int) (sd : Int) 0 = sn from rfl] at q0
            rw [show fr (sn : Int) (sd : Int) 1 = sd from rfl] at q1
            have q2 := hF9.cell 0 (by decide)
            have q3 := hF9.cell 1 (by decide)
            rw [show fr (pn : Int) (pd : Int) 0 = pn from rfl] at q2
            rw [show fr (pn : Int) (pd : Int) 1 = pd from rfl] at q3
            have HS9 := Lib.hid hS9; clear hS9
            have HB9 := Lib.hid hB9; clear hB9
            have HF9 := Lib.hid hF9; clear hF9
            go_region_with (first | (go_at_call 16; refine (Htm.out _).mono ?_; rintro e w11 ⟨rfl, hb11⟩; have hS11 := (HS9.out.drew).up hb11; have c0 := hS11.cell 0 (by decide); have c1 := hS11.cell 1 (by decide); rw [show fr (sn : Int) (sd : Int) 0 = sn from rfl] at c0; rw [show fr (sn : Int) (sd : Int) 1 = sd from rfl] at c1) | (go_at_call 15; refine (Hpl.out _).mono ?_; rintro e w12 ⟨rfl, hb12⟩; have hS12 := hS11.up hb12; have y0 := hS12.cell 0 (by decide); have y1 := hS12.cell 1 (by decide); rw [show fr (sn : Int) (sd : Int) 0 = sn from rfl] at y0; rw [show fr (sn : Int) (sd : Int) 1 = sd from rfl] at y1; have z2 := hS12.free 0; have z3 := hS12.free 1))
            all_goals
              have hB12 := nx (nx HB9.out.drew hb11) hb12
              go_wp2_with fail
              go_roundw
              case rel => exact ⟨k + 1, by omega, by go_num, by rw [← Hq.out.1, ← Hq.out.2]; exact fin2' hS12 _ _, (hB12.setCell (p := ⟨W0.heap.size, 0, none⟩) (Nat.le_refl _) _).setCell (p := ⟨W0.heap.size, 1, none⟩) (Nat.le_refl _) _⟩
              case measure => simp [intOf]; omega
          · obtain ⟨i1, hi1⟩ : ∃ i1, i = i1 + 1 := ⟨i - 1, by omega⟩
            have ei : (i : Int) - 1 = (i1 : Int) := by omega
            have hgt : decide ((0 : Int) < (i : Int)) = true := decide_eq_true (by omega)
            obtain ⟨b9, rfl, hb9, hAt9⟩ := hPr.at_ h0
            have hL9 := (hAt9.up hBy).drew
            have p0 := hL9.cell (i1 * 2) (by omega)
            have p1 := hL9.cell (i1 * 2 + 1) (by omega)
            rw [(Hpr.out i1 hi1).1] at p0
            rw [(Hpr.out i1 hi1).2] at p1
            have HF := Lib.hid hF0.drew; clear hF0
            have HSy := Lib.hid hSy.drew; clear hSy
            have HBy := Lib.hid hBy.drew; clear hBy
            have HL := Lib.hid hL9; clear hL9
            have f0 := HF.out.cell 0 (by omega)
            have f1 := HF.out.cell 1 (by omega)
            rw [show fr (fk : Int) 1 0 = fk from rfl] at f0
            rw [show fr (fk : Int) 1 1 = 1 from rfl] at f1
            have Hpr1 := Lib.hid (Hpr.out i1 hi1)
            generalize num A W = an at *
            generalize den A W = ad at *
            have hw : IntKind.i64.wrap (i1 : Int) = (i1 : Int) := by simp [IntKind.wrap, IntKind.signed, IntKind.bits]; omega
            have hn0 : (0 : Int) ≤ (i1 : Int) := by omega
            have hii : i1 < i := by omega
            have hn3 : decide (i1 < i) = true := decide_eq_true hii
            have hn4 : decide ((i1 : Int) < (i : Int)) = true := decide_eq_true (by omega)
            have hn1 : (i1 : Int) < (i : Int) := by omega
            clear hi1 hAt9
            by_cases hls : fk * ad < an
            · rw [if_pos hls] at hcut
              have hd : decide (fk * ad < an) = true := decide_eq_true hls
              rw [hd] at Hls
              obtain ⟨rfl, rfl⟩ := Prod.mk.inj hcut
              clear hcut hls hd
              go_wp2_with fail
              go_region_held3 (fun w' => w'.cell? ⟨wr.heap.size, 0, none⟩ = some (.int .i64 fk) ∧ w'.cell? ⟨wr.heap.size, 1, none⟩ = some (.int .i64 1) ∧ w'.cell? ⟨b9, i1 * 2, none⟩ = some (.int .i64 pn) ∧ w'.cell? ⟨b9, i1 * 2 + 1, none⟩ = some (.int .i64 pd)) (go_keep) (first | (go_at_call 10; refine (Hls.out _).mono ?_; rintro e w8 ⟨rfl, hb8⟩; have f2 := (HF.out.up hb8).cell 0 (by omega); have f3 := (HF.out.up hb8).cell 1 (by omega); rw [show fr (fk : Int) 1 0 = fk from rfl] at f2; rw [show fr (fk : Int) 1 1 = 1 from rfl] at f3; have p2 := (HL.out.up hb8).cell (i1 * 2) (by omega); have p3 := (HL.out.up hb8).cell (i1 * 2 + 1) (by omega); rw [Hpr1.out.1] at p2; rw [Hpr1.out.2] at p3))
              have hF8 := HF.out.up hb8
              have hS8 := HSy.out.up hb8
              have hB8 := nx HBy.out hb8
              have z0 := hF8.free 0
              have z1 := hF8.free 1
              have hF9 := fin2' hF8 (pn : Int) (pd : Int)
              have hS9 := (hS8.other hne 0 (.int .i64 (pn : Int))).other hne 1 (.int .i64 (pd : Int))
              have hB9 := (hB8.setCell (p := ⟨wr.heap.size, 0, none⟩) hle (.int .i64 (pn : Int))).setCell (p := ⟨wr.heap.size, 1, none⟩) hle (.int .i64 (pd : Int))
              clear hF8 hS8 hB8
              go_wp2_with fail
              generalize (w8.setCell ⟨wr.heap.size, 0, none⟩ (.int .i64 (pn : Int))).setCell ⟨wr.heap.size, 1, none⟩ (.int .i64 (pd : Int)) = W9 at *
              clear f0 f1 f2 f3 p0 p1 p2 p3 z0 z1
              try clear hVe
              try clear hA
              try clear hWp
              try clear hVp
              try clear hW
              try clear hV
              try clear hfb
              try clear hfk
              try clear hw
              try clear hn0
              try clear hii
              try clear hn3
              try clear hn4
              try clear hn1
              try clear hgt
              try clear hit
              try clear ei
              try clear h0
              try clear hk
              try clear HF
              try clear HL
              try clear HSy
              try clear HBy
              try clear Hpr1
              try clear hb8
              try clear Hls
              try clear Hss
              try clear Hps
              try clear Has
              try clear Hfe
              have q0 := hS9.cell 0 (by decide)
              have q1 := hS9.cell 1 (by decide)
              rw [show fr (sn : Int) (sd : Int) 0 = sn from rfl] at q0
              rw [show fr (sn : Int) (sd : Int) 1 = sd from rfl] at q1
              have q2 := hF9.cell 0 (by decide)
              have q3 := hF9.cell 1 (by decide)
              rw [show fr (pn : Int) (pd : Int) 0 = pn from rfl] at q2
              rw [show fr (pn : Int) (pd : Int) 1 = pd from rfl] at q3
              have HS9 := Lib.hid hS9; clear hS9
              have HB9 := Lib.hid hB9; clear hB9
              have HF9 := Lib.hid hF9; clear hF9
              go_region_with (first | (go_at_call 16; refine (Htm.out _).mono ?_; rintro e w11 ⟨rfl, hb11⟩; have hS11 := (HS9.out.drew).up hb11; have c0 := hS11.cell 0 (by decide); have c1 := hS11.cell 1 (by decide); rw [show fr (sn : Int) (sd : Int) 0 = sn from rfl] at c0; rw [show fr (sn : Int) (sd : Int) 1 = sd from rfl] at c1) | (go_at_call 15; refine (Hpl.out _).mono ?_; rintro e w12 ⟨rfl, hb12⟩; have hS12 := hS11.up hb12; have y0 := hS12.cell 0 (by decide); have y1 := hS12.cell 1 (by decide); rw [show fr (sn : Int) (sd : Int) 0 = sn from rfl] at y0; rw [show fr (sn : Int) (sd : Int) 1 = sd from rfl] at y1; have z2 := hS12.free 0; have z3 := hS12.free 1))
              all_goals
                have hB12 := nx (nx HB9.out.drew hb11) hb12
                go_wp2_with fail
                go_roundw
                case rel => exact ⟨k + 1, by omega, by go_num, by rw [← Hq.out.1, ← Hq.out.2]; exact fin2' hS12 _ _, (hB12.setCell (p := ⟨W0.heap.size, 0, none⟩) (Nat.le_refl _) _).setCell (p := ⟨W0.heap.size, 1, none⟩) (Nat.le_refl _) _⟩
                case measure => simp [intOf]; omega
            · rw [if_neg hls] at hcut
              have hd : decide (fk * ad < an) = false := decide_eq_false hls
              rw [hd] at Hls
              obtain ⟨hpn, hpd⟩ := Prod.mk.inj hcut
              clear hcut hls hd
              go_wp2_with fail
              go_region_held3 (fun w' => w'.cell? ⟨wr.heap.size, 0, none⟩ = some (.int .i64 fk) ∧ w'.cell? ⟨wr.heap.size, 1, none⟩ = some (.int .i64 1) ∧ w'.cell? ⟨b9, i1 * 2, none⟩ = some (.int .i64 an) ∧ w'.cell? ⟨b9, i1 * 2 + 1, none⟩ = some (.int .i64 ad)) (go_keep) (first | (go_at_call 10; refine (Hls.out _).mono ?_; rintro e w8 ⟨rfl, hb8⟩; have f2 := (HF.out.up hb8).cell 0 (by omega); have f3 := (HF.out.up hb8).cell 1 (by omega); rw [show fr (fk : Int) 1 0 = fk from rfl] at f2; rw [show fr (fk : Int) 1 1 = 1 from rfl] at f3; have p2 := (HL.out.up hb8).cell (i1 * 2) (by omega); have p3 := (HL.out.up hb8).cell (i1 * 2 + 1) (by omega); rw [Hpr1.out.1] at p2; rw [Hpr1.out.2] at p3))
              have hF8 := HF.out.up hb8
              have hS9 := HSy.out.up hb8
              have hB9 := nx HBy.out hb8
              have hF9 : At w8 wr.heap.size 2 (fr (pn : Int) (pd : Int)) := by rw [hpn, hpd]; exact hF8
              clear hF8 hpn hpd f0 f1 f2 f3 p0 p1 p2 p3
              go_wp2_with fail
              obtain ⟨W9, hW9⟩ : ∃ W, W = w8 := ⟨_, rfl⟩
              rw [← hW9] at hS9 hB9 hF9 ⊢
              clear hW9
              try clear hVe
              try clear hA
              try clear hWp
              try clear hVp
              try clear hW
              try clear hV
              try clear hfb
              try clear hfk
              try clear hw
              try clear hn0
              try clear hii
              try clear hn3
              try clear hn4
              try clear hn1
              try clear hgt
              try clear hit
              try clear ei
              try clear h0
              try clear hk
              try clear HF
              try clear HL
              try clear HSy
              try clear HBy
              try clear Hpr1
              try clear hb8
              try clear Hls
              try clear Hss
              try clear Hps
              try clear Has
              try clear Hfe
              have q0 := hS9.cell 0 (by decide)
              have q1 := hS9.cell 1 (by decide)
              rw [show fr (sn : Int) (sd : Int) 0 = sn from rfl] at q0
              rw [show fr (sn : Int) (sd : Int) 1 = sd from rfl] at q1
              have q2 := hF9.cell 0 (by decide)
              have q3 := hF9.cell 1 (by decide)
              rw [show fr (pn : Int) (pd : Int) 0 = pn from rfl] at q2
              rw [show fr (pn : Int) (pd : Int) 1 = pd from rfl] at q3
              have HS9 := Lib.hid hS9; clear hS9
              have HB9 := Lib.hid hB9; clear hB9
              have HF9 := Lib.hid hF9; clear hF9
              go_region_with (first | (go_at_call 16; refine (Htm.out _).mono ?_; rintro e w11 ⟨rfl, hb11⟩; have hS11 := (HS9.out.drew).up hb11; have c0 := hS11.cell 0 (by decide); have c1 := hS11.cell 1 (by decide); rw [show fr (sn : Int) (sd : Int) 0 = sn from rfl] at c0; rw [show fr (sn : Int) (sd : Int) 1 = sd from rfl] at c1) | (go_at_call 15; refine (Hpl.out _).mono ?_; rintro e w12 ⟨rfl, hb12⟩; have hS12 := hS11.up hb12; have y0 := hS12.cell 0 (by decide); have y1 := hS12.cell 1 (by decide); rw [show fr (sn : Int) (sd : Int) 0 = sn from rfl] at y0; rw [show fr (sn : Int) (sd : Int) 1 = sd from rfl] at y1; have z2 := hS12.free 0; have z3 := hS12.free 1))
              all_goals
                have hB12 := nx (nx HB9.out.drew hb11) hb12
                go_wp2_with fail
                go_roundw
                case rel => exact ⟨k + 1, by omega, by go_num, by rw [← Hq.out.1, ← Hq.out.2]; exact fin2' hS12 _ _, (hB12.setCell (p := ⟨W0.heap.size, 0, none⟩) (Nat.le_refl _) _).setCell (p := ⟨W0.heap.size, 1, none⟩) (Nat.le_refl _) _⟩
                case measure => simp [intOf]; omega
        · obtain rfl : k = 6 := by omega
          rw [← hS6.out] at hSx
          have hB6 := hB.trans (hBx.mono (show w.heap.size + 1 ≤ W0.heap.size by omega))
          have hO6 := own_up hO hBx
          have hsz6 : w.heap.size + 1 ≤ wr.heap.size := by have := hBx.size; omega
          obtain ⟨x, hx⟩ : ∃ x, x = num A1 V := ⟨_, rfl⟩
          obtain ⟨y, hy⟩ : ∃ y, y = den A1 V := ⟨_, rfl⟩
          rw [← hx, ← hy] at hSx Hsn
          clear hx hy hBx hO
          have q0 := hSx.cell 0 (by omega)
          have q1 := hSx.cell 1 (by omega)
          rw [show fr (x : Int) (y : Int) 0 = x from rfl] at q0
          rw [show fr (x : Int) (y : Int) 1 = y from rfl] at q1
          go_wp2_with (at_builtin; refine wpList_append_own _ rfl _ _ 29 rfl (w.heap.size + 1) 33 i2 (.agg #[.int .i64 0, .int .i64 0]) 2 16 Try.underlying29 H2.out.1 H2.out.2.1 H2.out.2.2.1 H2.out.2.2.2 rfl (by decide) _ _ _ rfl (hO6.alloc _) ⟨wr.heap.size, 0, none⟩ 1 1 [.int .i64 (x : Int), .int .i64 (y : Int)] rfl rfl ?c1 ?c2 ?c3 ?c4 ?c5 ?_)
          case c1 =>
            intro t u ht
            match t, ht with
            | 0, ht => simp at ht; subst ht; simp [Addr.add]
            | 1, ht => simp at ht; subst ht; simp [Addr.add]
          case c2 => intro u hu; simp at hu; rcases hu with rfl | rfl <;> rfl
          case c3 => unfold maxLen; omega
          case c4 => omega
          case c5 => simp; omega
          · intro v' w4 hO4 hg4 _
            have hB4 := (hB6.alloc hsz6 (.cells #[.int .i64 (x : Int), .int .i64 (y : Int)] 33)).grown hg4 (by rw [size_alloc]; omega) (fun t e => (hO6.lt t e).1)
            have hO5 : w4.ownsRow (w.heap.size + 1) 33 2 v' (i + 1) (vals ((i + 1) * 2) (sf f)) := by rw [← Hsn.out]; exact hO4
            clear hg4 hO4 hO6 hB6
            go_wp2_with fail
            go_roundw
            case rel => exact ⟨i + 1, by omega, by go_num, hO5, hB4⟩
            case measure => simp [intOf]; omega
    · obtain rfl : i = n := by omega
      have hit : decide ((i : Int) < (i : Int)) = false := decide_eq_false (by omega)
      obtain ⟨A', c', rfl, hI⟩ := pairs_own hO
      go_wp2_with fail
      go_ret2
      exact ⟨_, _, rfl, hI.mono (Nat.le_succ _), hB1.trans (hB.mono (Nat.le_succ _))⟩

theorem specStop_any (d : Nat → Int) (n : Int) (w : World) :
    Calls Try.prog 9 #[dv d, .int .i64 n] w fun e w' => ∃ A c, e = .returned (.tuple #[.slice A (lenM d n) c, .bool (okM d n)]) ∧ Pairs w.heap.size w' A (lenM d n) (sf (face d)) ∧ Below w.heap.size w w' := by
  cases hd : isDie d
  · exact sstopNo1 d n w hd
  · by_cases h : n < 1 ∨ 6 < n
    · exact sstopNo2 d n w hd h
    · obtain ⟨n, rfl⟩ : ∃ m : Nat, n = m := ⟨n.toNat, by omega⟩
      have ho := ok_yes hd (n := (n : Int)) (by omega) (by omega)
      have hl : lenM d n = n := by unfold lenM; rw [ho]; simp
      rw [hl, ho]
      exact sstopYes d n w hd (by omega) (by omega)


end StopS
end Go.Proofs.Ytojeokakehbaeaa
