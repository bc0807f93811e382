/-
  FirstWins and SameRound, both sides.
-/
import Derived.Test.YtcffglnfdnanhaaRows
import Derived.Test.YtcffglnfdnanhaaArr
import Derived.Test.YtcffglnfdnanhaaAnyR
import Derived.Test.YtcffglnfdnanhaaDieW
import Derived.Test.YtcffglnfdnanhaaSortW
import Derived.Test.YtcffglnfdnanhaaFracW
import Derived.Test.YtcffglnfdnanhaaFracL
import Derived.Test.YtcffglnfdnanhaaCutW
import Derived.Test.YtcffglnfdnanhaaAll6
import Derived.Test.YtcffglnfdnanhaaAllL
import Derived.Test.YtcffglnfdnanhaaOwnL
import Derived.Test.YtcffglnfdnanhaaFracM
import Derived.Test.YtcffglnfdnanhaaStopM
import Derived.Test.YtcffglnfdnanhaaRunM
import Derived.Test.YtcffglnfdnanhaaRunI
import Derived.Test.YtcffglnfdnanhaaRunS
import Derived.Test.YtcffglnfdnanhaaRunW
import Derived.Test.YtcffglnfdnanhaaRaceM
import Derived.Test.YtcffglnfdnanhaaRaceW
import Derived.Test.YtcffglnfdnanhaaOpenD
import Derived.WalkKit
import Derived.WalkLawsBesides
import Derived.WalkSpells
import Derived.ProofKit
import Derived.OpenShut
import Derived.Deep.RegionWith
import Derived.Deep.QuietTactic
import Derived.BigQuiet
namespace Go.Proofs.Ytcffglnfdnanhaa
open Go.ChangeShapes Go.WideShapes Go.ChangeAt Go.RowKit
open Go.ChangeMaps (open_string shut_string)

namespace Races
open Dice Arr DieW SortW FracW CutW All6 AllL OwnL FracM StopM RunM RunI RunS RunW RaceM RaceW

/-- Whether a race is valid. -/
def okF (a b : Nat → Int) (g : Int) : Bool := isRun a && (isRun b && decide (1 ≤ g ∧ g ≤ 8))
theorem okF_1 {a b : Nat → Int} {g : Int} (h : isRun a = false) : okF a b g = false := by simp only [okF, h, Bool.false_and]
theorem okF_2 {a b : Nat → Int} {g : Int} (h : isRun b = false) : okF a b g = false := by simp only [okF, h, Bool.false_and, Bool.and_false]
theorem okF_3 {a b : Nat → Int} {g : Int} (h : ¬ (1 ≤ g ∧ g ≤ 8)) : okF a b g = false := by simp only [okF, decide_eq_false h, Bool.and_false]
theorem okF_yes {a b : Nat → Int} {g : Int} (h1 : isRun a = true) (h2 : isRun b = true) (h : 1 ≤ g ∧ g ≤ 8) : okF a b g = true := by simp only [okF, h1, h2, decide_eq_true h, Bool.and_true]
theorem okF_a {a b : Nat → Int} {g : Int} (h : okR a g = false) : okF a b g = false := by
  simp only [okR] at h
  simp only [okF]
  cases h1 : isRun a
  · rfl
  · rw [h1, Bool.true_and] at h
    rw [h, Bool.and_false, Bool.true_and]
theorem okF_b {a b : Nat → Int} {g : Int} (h : okR b g = false) : okF a b g = false := by
  simp only [okR] at h
  simp only [okF, h, Bool.and_false]
/-- The parts that a race is told in. -/
def firstN (a b : Nat → Int) (g : Nat) : Nat := bef (part7 (face a) g) (part7 (face b) g) g g + same (part7 (face a) g) (part7 (face b) g) g
def sameN (a b : Nat → Int) (g : Nat) : Nat := same (part7 (face a) g) (part7 (face b) g) g
def firstx (a b : Nat → Int) (g : Int) : Int := if okF a b g then (num (firstN a b g.toNat) (6 ^ (2 * g.toNat)) : Nat) else 0
def firsty (a b : Nat → Int) (g : Int) : Int := if okF a b g then (den (firstN a b g.toNat) (6 ^ (2 * g.toNat)) : Nat) else 0
theorem first_no {a b : Nat → Int} {g : Int} (h : okF a b g = false) : firstx a b g = 0 ∧ firsty a b g = 0 := by simp [firstx, firsty, h]
theorem first_yes {a b : Nat → Int} {g : Nat} (h : okF a b g = true) : firstx a b g = (num (firstN a b g) (6 ^ (2 * g)) : Nat) ∧ firsty a b g = (den (firstN a b g) (6 ^ (2 * g)) : Nat) := by
  simp [firstx, firsty, h]
def samex (a b : Nat → Int) (g : Int) : Int := if okF a b g then (num (sameN a b g.toNat) (6 ^ (2 * g.toNat)) : Nat) else 0
def samey (a b : Nat → Int) (g : Int) : Int := if okF a b g then (den (sameN a b g.toNat) (6 ^ (2 * g.toNat)) : Nat) else 0
theorem same_no {a b : Nat → Int} {g : Int} (h : okF a b g = false) : samex a b g = 0 ∧ samey a b g = 0 := by simp [samex, samey, h]
theorem same_yes {a b : Nat → Int} {g : Nat} (h : okF a b g = true) : samex a b g = (num (sameN a b g) (6 ^ (2 * g)) : Nat) ∧ samey a b g = (den (sameN a b g) (6 ^ (2 * g)) : Nat) := by
  simp [samex, samey, h]

set_option maxRecDepth 100000 in
set_option maxHeartbeats 16000000 in
theorem implFirstWins_any (a b : Nat → Int) (g : Int) (w : World) :
    Calls Try.prog 27 #[dv a, dv b, .int .i64 g] w fun e w' => e = .returned (.tuple #[v2 (firstx a b g) (firsty a b g), .bool (okF a b g)]) ∧ Below w.heap.size w w' := by
  have hc := fun w => canRun_any a g w
  have hc' := fun w => canRun_any b g w
  unfold dv at hc hc'
  have Hc := Lib.hid hc; clear hc
  have Hc' := Lib.hid hc'; clear hc'
  cases hok : okR a g
  · rw [hok] at Hc
    have hno : okF a b g = false := okF_a hok
    rw [hno, (first_no hno).1, (first_no hno).2]
    clear hok hno
    unfold dv
    have hB := na (na (na (n0 w) (sixO a 22)) (sixO b 22)) (.cells #[.int .i64 0, .int .i64 0] 30)
    have hDa := ((At.new6 w a 22 rfl).past (sixO b 22)).past (.cells #[.int .i64 0, .int .i64 0] 30)
    have hDb := (At.new6 (w.alloc (sixO a 22)) b 22 (b := w.heap.size + 1) (by rw [size_alloc])).past (.cells #[.int .i64 0, .int .i64 0] 30)
    have hRX := At.new2 ((w.alloc (sixO a 22)).alloc (sixO b 22)) 30
    rw [size_alloc, size_alloc] at hRX
    obtain ⟨e0, e1, e2, e3, e4, e5⟩ := hDa.six
    obtain ⟨f0, f1, f2, f3, f4, f5⟩ := hDb.six
    go_enter Try.func27, Try.ntmps27
    go_wp2_with fail
    refine (Hc.out _).mono ?_
    rintro e w1 ⟨rfl, hb1⟩
    have hDa := hDa.up hb1
    have hDb := hDb.up hb1
    have hRX := hRX.up hb1
    have hB := nx hB hb1
    clear hb1
    clear e0 e1 e2 e3 e4 e5
    clear f0 f1 f2 f3 f4 f5
    have c0 := hRX.cell 0 (by omega)
    have c1 := hRX.cell 1 (by omega)
    have z0 := hRX.free 0
    have z1 := hRX.free 1
    go_wp2_with fail
    refine ret_cell_tmp (b := w.heap.size + 1 + 1) (n := 2) (f := fr 0 0) Try.results27 rfl rfl Try.underlying30 (by kernel_rfl) (fin2' hRX _ _) rfl ⟨rfl, ?_⟩
    exact (hB.setCell (p := ⟨w.heap.size + 1 + 1, 0, none⟩) (by show w.heap.size ≤ w.heap.size + 1 + 1; omega) _).setCell (p := ⟨w.heap.size + 1 + 1, 1, none⟩) (by show w.heap.size ≤ w.heap.size + 1 + 1; omega) _
  · rw [hok] at Hc
    cases hok2 : okR b g
    · rw [hok2] at Hc'
      have hno : okF a b g = false := okF_b hok2
      rw [hno, (first_no hno).1, (first_no hno).2]
      clear hok hok2 hno
      unfold dv
      have hB := na (na (na (n0 w) (sixO a 22)) (sixO b 22)) (.cells #[.int .i64 0, .int .i64 0] 30)
      have hDa := ((At.new6 w a 22 rfl).past (sixO b 22)).past (.cells #[.int .i64 0, .int .i64 0] 30)
      have hDb := (At.new6 (w.alloc (sixO a 22)) b 22 (b := w.heap.size + 1) (by rw [size_alloc])).past (.cells #[.int .i64 0, .int .i64 0] 30)
      have hRX := At.new2 ((w.alloc (sixO a 22)).alloc (sixO b 22)) 30
      rw [size_alloc, size_alloc] at hRX
      obtain ⟨e0, e1, e2, e3, e4, e5⟩ := hDa.six
      go_enter Try.func27, Try.ntmps27
      go_wp2_with fail
      refine (Hc.out _).mono ?_
      rintro e w1 ⟨rfl, hb1⟩
      have hDa := hDa.up hb1
      have hDb := hDb.up hb1
      have hRX := hRX.up hb1
      have hB := nx hB hb1
      clear hb1
      clear e0 e1 e2 e3 e4 e5
      obtain ⟨f0, f1, f2, f3, f4, f5⟩ := hDb.six
      go_wp2_with fail
      refine (Hc'.out _).mono ?_
      rintro e w2 ⟨rfl, hb2⟩
      have hDa := hDa.up hb2
      have hDb := hDb.up hb2
      have hRX := hRX.up hb2
      have hB := nx hB hb2
      clear hb2
      clear f0 f1 f2 f3 f4 f5
      have c0 := hRX.cell 0 (by omega)
      have c1 := hRX.cell 1 (by omega)
      have z0 := hRX.free 0
      have z1 := hRX.free 1
      go_wp2_with fail
      refine ret_cell_tmp (b := w.heap.size + 1 + 1) (n := 2) (f := fr 0 0) Try.results27 rfl rfl Try.underlying30 (by kernel_rfl) (fin2' hRX _ _) rfl ⟨rfl, ?_⟩
      exact (hB.setCell (p := ⟨w.heap.size + 1 + 1, 0, none⟩) (by show w.heap.size ≤ w.heap.size + 1 + 1; omega) _).setCell (p := ⟨w.heap.size + 1 + 1, 1, none⟩) (by show w.heap.size ≤ w.heap.size + 1 + 1; omega) _
    · rw [hok2] at Hc'
      obtain ⟨hr, h1, h8⟩ := of_okR hok
      obtain ⟨hr2, _, _⟩ := of_okR hok2
      have hyes : okF a b g = true := okF_yes hr hr2 ⟨h1, h8⟩
      obtain ⟨g, rfl⟩ : ∃ m : Nat, g = m := ⟨g.toNat, by omega⟩
      rw [hyes, (first_yes hyes).1, (first_yes hyes).2]
      unfold firstN
      have hd := faces_of hr
      have hd2 := faces_of hr2
      generalize face a = f at *
      generalize face b = h at *
      clear hok hok2 hr hr2 hyes
      have hma := fun w => implEnds_any a f g w hd (by omega) (by omega)
      have hmb := fun w => implEnds_any b h g w hd2 (by omega) (by omega)
      unfold dv at hma hmb
      have Hma := Lib.hid hma; clear hma
      have Hmb := Lib.hid hmb; clear hmb
      have Ho := Lib.hid (fun w => outcomesL 8 w (by omega))
      rw [show all6 8 = 1679616 from by decide] at Ho
      have Ho2 := Lib.hid (fun w => outcomesL 16 w (by omega))
      rw [show all6 16 = 2821109907456 from by decide] at Ho2
      have hAl := fun n (hn : n ≤ g) => ends_le f (g := g) (n := n) (by omega) (by omega) hn
      have hBl := fun n (hn : n ≤ g) => ends_le h (g := g) (n := n) (by omega) (by omega) hn
      have hw : ∀ n, n ≤ g → wins (ends f g) (ends h g) 1679616 n ≤ 2821109907456 := fun n hn => wins_le hAl hn
      have Hal := Lib.hid (fun n (hn : n < g) => ends_one f (g := g) (j := n) (by omega) (by omega) hn)
      have Hbl := Lib.hid hBl
      have hcut : ∀ w, Calls Try.prog 59 #[.int .i64 (wins (ends f g) (ends h g) 1679616 g : Nat), .int .i64 2821109907456] w fun e w' => e = .returned (v2 (num (wins (ends f g) (ends h g) 1679616 g) 2821109907456 : Nat) (den (wins (ends f g) (ends h g) 1679616 g) 2821109907456 : Nat)) ∧ Below w.heap.size w w' := fun w => FracL.fractionL (wins (ends f g) (ends h g) 1679616 g) 2821109907456 w (by have := hw g (Nat.le_refl _); omega) (by omega) (by omega)
      rw [(first_cut (d := f) (fun j hj => (hd2 j hj).2.1) (show 1 ≤ g by omega) (show g ≤ 8 by omega)).1, (first_cut (d := f) (fun j hj => (hd2 j hj).2.1) (show 1 ≤ g by omega) (show g ≤ 8 by omega)).2] at hcut
      have Hw := Lib.hid hw
      have Hcut := Lib.hid hcut
      clear hcut hw hAl hBl hd hd2
      generalize hx0 : num (bef (part7 f g) (part7 h g) g g + same (part7 f g) (part7 h g) g) (6 ^ (2 * g)) = x0 at *
      generalize hy0 : den (bef (part7 f g) (part7 h g) g g + same (part7 f g) (part7 h g) g) (6 ^ (2 * g)) = y0 at *
      clear hx0 hy0
      generalize ends f g = A at *
      generalize ends h g = B at *
      unfold dv
      have hB := na (na (na (n0 w) (sixO a 22)) (sixO b 22)) (.cells #[.int .i64 0, .int .i64 0] 30)
      have hDa := ((At.new6 w a 22 rfl).past (sixO b 22)).past (.cells #[.int .i64 0, .int .i64 0] 30)
      have hDb := (At.new6 (w.alloc (sixO a 22)) b 22 (b := w.heap.size + 1) (by rw [size_alloc])).past (.cells #[.int .i64 0, .int .i64 0] 30)
      have hRX := At.new2 ((w.alloc (sixO a 22)).alloc (sixO b 22)) 30
      rw [size_alloc, size_alloc] at hRX
      obtain ⟨e0, e1, e2, e3, e4, e5⟩ := hDa.six
      go_enter Try.func27, Try.ntmps27
      go_wp2_with fail
      refine (Hc.out _).mono ?_
      rintro e w1 ⟨rfl, hb1⟩
      have hDa := hDa.up hb1
      have hDb := hDb.up hb1
      have hRX := hRX.up hb1
      have hB := nx hB hb1
      clear hb1
      clear e0 e1 e2 e3 e4 e5
      obtain ⟨f0, f1, f2, f3, f4, f5⟩ := hDb.six
      go_wp2_with fail
      refine (Hc'.out _).mono ?_
      rintro e w2 ⟨rfl, hb2⟩
      have hDa := hDa.up hb2
      have hDb := hDb.up hb2
      have hRX := hRX.up hb2
      have hB := nx hB hb2
      clear hb2
      clear f0 f1 f2 f3 f4 f5
      obtain ⟨f0, f1, f2, f3, f4, f5⟩ := hDb.six
      go_wp2_with fail
      refine (Hmb.out _).mono ?_
      rintro e w3 ⟨bb, rfl, _, hAb, hb3⟩
      have hDa := hDa.up hb3
      have hDb := hDb.up hb3
      have hRX := hRX.up hb3
      have hB := nx hB hb3
      clear hb3
      clear f0 f1 f2 f3 f4 f5
      obtain ⟨e0, e1, e2, e3, e4, e5⟩ := hDa.six
      go_wp2_with fail
      refine (Ho.out _).mono ?_
      rintro e w4 ⟨rfl, hw4⟩
      have hw4 := hw4.symm
      subst hw4
      go_wp2_with fail
      refine (Hma.out _).mono ?_
      rintro e w5 ⟨ba, rfl, _, hAa, hb5⟩
      have hDa := hDa.up hb5
      have hDb := hDb.up hb5
      have hRX := hRX.up hb5
      have hAb := hAb.up hb5
      have hB := nx hB hb5
      clear hb5
      clear e0 e1 e2 e3 e4 e5
      clear hDa hDb
      go_wp2_with fail
      go_loop [9, 10, 32] (fun sv rv kv => ∃ k : Nat, k ≤ g ∧ kv = .int .i64 k ∧ sv = .int .i64 (wins A B 1679616 k : Nat) ∧ rv = .int .i64 (1679616 - nsum B k : Nat)) (fun _ _ kv => g - (intOf kv).toNat)
      case atStart => exact ⟨0, by omega, rfl, rfl, rfl⟩
      case round =>
        obtain ⟨k, hk, rfl, rfl, rfl⟩ := hrel
        by_cases hlt : k < g
        · have hit : decide ((k : Int) < (g : Int)) = true := decide_eq_true (by omega)
          have ca := hAa.cell k hlt
          have cb := hAb.cell k hlt
          have hs : Hid (wins A B 1679616 (k + 1) = wins A B 1679616 k + A k * (1679616 - nsum B k)) := rfl
          have hs2 := Hw.out (k + 1) hlt
          rw [hs.out] at hs2
          have hn : Hid (nsum B (k + 1) = nsum B k + B k) := rfl
          have hn2 := Hbl.out (k + 1) hlt
          rw [hn.out] at hn2
          have haa := Hal.out k hlt
          obtain ⟨r, hr⟩ : ∃ r, r = 1679616 - nsum B k := ⟨_, rfl⟩
          have hr1 : 1679616 - nsum B (k + 1) = r - B k := by rw [hn.out]; omega
          have hrb : B k ≤ r := by omega
          have hrl : r ≤ 1679616 := by omega
          rw [← hr] at hs hs2 ⊢
          obtain ⟨p, hp⟩ : ∃ p, A k * r = p := ⟨_, rfl⟩
          rw [hp] at hs hs2
          have hm : (A k : Int) * (r : Int) = (p : Int) := by rw [← hp]; push_cast; rfl
          have hsub : (r : Int) - (B k : Int) = ((r - B k : Nat) : Int) := by omega
          have Hr1 := Lib.hid hr1
          clear hr hr1 hn hn2 hp
          generalize hz : wins A B 1679616 k = z at *
          generalize B k = bk at *
          generalize A k = ak at *
          have Hz := Lib.hid hz; clear hz
          go_wp2_with fail
          go_round
          case rel => exact ⟨k + 1, by omega, by go_num, by rw [hs.out]; go_num, by rw [Hr1.out]⟩
          case measure => simp [intOf]; omega
        · obtain rfl : k = g := by omega
          have hit : decide ((k : Int) < (k : Int)) = false := decide_eq_false (by omega)
          go_wp2_with fail
          refine (Ho2.out _).mono ?_
          rintro e w6 ⟨rfl, hw6⟩
          have hw6 := hw6.symm
          subst hw6
          go_wp2_with fail
          refine (Hcut.out _).mono ?_
          rintro e w7 ⟨rfl, hb7⟩
          have hRX := hRX.up hb7
          have hB := nx hB hb7
          clear hb7
          have c0 := hRX.cell 0 (by omega)
          have c1 := hRX.cell 1 (by omega)
          have z0 := hRX.free 0
          have z1 := hRX.free 1
          go_wp2_with fail
          refine ret_cell_tmp (b := w.heap.size + 1 + 1) (n := 2) (f := fr x0 y0) Try.results27 rfl rfl Try.underlying30 (by kernel_rfl) (fin2' hRX _ _) rfl ⟨rfl, ?_⟩
          exact (hB.setCell (p := ⟨w.heap.size + 1 + 1, 0, none⟩) (by show w.heap.size ≤ w.heap.size + 1 + 1; omega) _).setCell (p := ⟨w.heap.size + 1 + 1, 1, none⟩) (by show w.heap.size ≤ w.heap.size + 1 + 1; omega) _

set_option maxRecDepth 100000 in
set_option maxHeartbeats 16000000 in
theorem specFirstWins_any (a b : Nat → Int) (g : Int) (w : World) :
    Calls Try.prog 26 #[dv a, dv b, .int .i64 g] w fun e w' => e = .returned (.tuple #[v2 (firstx a b g) (firsty a b g), .bool (okF a b g)]) ∧ Below w.heap.size w w' := by
  have hc := fun w => specRunner_any a w
  have hc' := fun w => specRunner_any b w
  unfold dv at hc hc'
  have Hc := Lib.hid hc; clear hc
  have Hc' := Lib.hid hc'; clear hc'
  have hgo := fun w => specGoal_any g w
  cases hr : isRun a
  · rw [hr] at Hc
    have hno : okF a b g = false := okF_1 hr
    rw [hno, (first_no hno).1, (first_no hno).2]
    clear hr hno hgo
    unfold dv
    have hB := na (na (na (n0 w) (sixO a 22)) (sixO b 22)) (.cells #[.int .i64 0, .int .i64 0] 30)
    have hDa := ((At.new6 w a 22 rfl).past (sixO b 22)).past (.cells #[.int .i64 0, .int .i64 0] 30)
    have hDb := (At.new6 (w.alloc (sixO a 22)) b 22 (b := w.heap.size + 1) (by rw [size_alloc])).past (.cells #[.int .i64 0, .int .i64 0] 30)
    have hRX := At.new2 ((w.alloc (sixO a 22)).alloc (sixO b 22)) 30
    rw [size_alloc, size_alloc] at hRX
    obtain ⟨e0, e1, e2, e3, e4, e5⟩ := hDa.six
    obtain ⟨f0, f1, f2, f3, f4, f5⟩ := hDb.six
    go_enter Try.func26, Try.ntmps26
    go_wp2_with fail
    refine (Hc.out _).mono ?_
    rintro e w1 ⟨rfl, hb1⟩
    have hDa := hDa.up hb1
    have hDb := hDb.up hb1
    have hRX := hRX.up hb1
    have hB := nx hB hb1
    clear hb1
    clear e0 e1 e2 e3 e4 e5
    clear f0 f1 f2 f3 f4 f5
    have c0 := hRX.cell 0 (by omega)
    have c1 := hRX.cell 1 (by omega)
    have z0 := hRX.free 0
    have z1 := hRX.free 1
    go_wp2_with fail
    refine ret_cell_tmp (b := w.heap.size + 1 + 1) (n := 2) (f := fr 0 0) Try.results26 rfl rfl Try.underlying30 (by kernel_rfl) (fin2' hRX _ _) rfl ⟨rfl, ?_⟩
    exact (hB.setCell (p := ⟨w.heap.size + 1 + 1, 0, none⟩) (by show w.heap.size ≤ w.heap.size + 1 + 1; omega) _).setCell (p := ⟨w.heap.size + 1 + 1, 1, none⟩) (by show w.heap.size ≤ w.heap.size + 1 + 1; omega) _
  · rw [hr] at Hc
    cases hr2 : isRun b
    · rw [hr2] at Hc'
      have hno : okF a b g = false := okF_2 hr2
      rw [hno, (first_no hno).1, (first_no hno).2]
      clear hr hr2 hno hgo
      unfold dv
      have hB := na (na (na (n0 w) (sixO a 22)) (sixO b 22)) (.cells #[.int .i64 0, .int .i64 0] 30)
      have hDa := ((At.new6 w a 22 rfl).past (sixO b 22)).past (.cells #[.int .i64 0, .int .i64 0] 30)
      have hDb := (At.new6 (w.alloc (sixO a 22)) b 22 (b := w.heap.size + 1) (by rw [size_alloc])).past (.cells #[.int .i64 0, .int .i64 0] 30)
      have hRX := At.new2 ((w.alloc (sixO a 22)).alloc (sixO b 22)) 30
      rw [size_alloc, size_alloc] at hRX
      obtain ⟨e0, e1, e2, e3, e4, e5⟩ := hDa.six
      go_enter Try.func26, Try.ntmps26
      go_wp2_with fail
      refine (Hc.out _).mono ?_
      rintro e w1 ⟨rfl, hb1⟩
      have hDa := hDa.up hb1
      have hDb := hDb.up hb1
      have hRX := hRX.up hb1
      have hB := nx hB hb1
      clear hb1
      clear e0 e1 e2 e3 e4 e5
      obtain ⟨f0, f1, f2, f3, f4, f5⟩ := hDb.six
      go_wp2_with fail
      refine (Hc'.out _).mono ?_
      rintro e w2 ⟨rfl, hb2⟩
      have hDa := hDa.up hb2
      have hDb := hDb.up hb2
      have hRX := hRX.up hb2
      have hB := nx hB hb2
      clear hb2
      clear f0 f1 f2 f3 f4 f5
      have c0 := hRX.cell 0 (by omega)
      have c1 := hRX.cell 1 (by omega)
      have z0 := hRX.free 0
      have z1 := hRX.free 1
      go_wp2_with fail
      refine ret_cell_tmp (b := w.heap.size + 1 + 1) (n := 2) (f := fr 0 0) Try.results26 rfl rfl Try.underlying30 (by kernel_rfl) (fin2' hRX _ _) rfl ⟨rfl, ?_⟩
      exact (hB.setCell (p := ⟨w.heap.size + 1 + 1, 0, none⟩) (by show w.heap.size ≤ w.heap.size + 1 + 1; omega) _).setCell (p := ⟨w.heap.size + 1 + 1, 1, none⟩) (by show w.heap.size ≤ w.heap.size + 1 + 1; omega) _
    · rw [hr2] at Hc'
      by_cases hgg : 1 ≤ g ∧ g ≤ 8
      · rw [decide_eq_true hgg] at hgo
        have hyes : okF a b g = true := okF_yes hr hr2 hgg
        have Hg := Lib.hid hgo; clear hgo
        obtain ⟨h1, h8⟩ := hgg
        obtain ⟨g, rfl⟩ : ∃ m : Nat, g = m := ⟨g.toNat, by omega⟩
        rw [hyes, (first_yes hyes).1, (first_yes hyes).2]
        unfold firstN
        have hd := faces_of hr
        have hd2 := faces_of hr2
        generalize face a = f at *
        generalize face b = h at *
        clear hr hr2 hyes
        have hm := fun w => race_any a b f h g w hd hd2 (by omega) (by omega)
        unfold dv at hm
        have Hm := Lib.hid hm; clear hm hd hd2
        have hpg := pow_six (show g ≤ 8 by omega)
        have hsq : 6 ^ g * 6 ^ g ≤ 2821109907456 := Nat.mul_le_mul hpg.1 hpg.1
        have hb1 := Nat.le_trans (bef_le (a := part7 f g) (b := part7 h g) (n := g) (fun n hn => part7_le f (by omega) hn) (fun n hn => part7_le h (by omega) hn) (Nat.le_refl _)) hsq
        have hb2 := Nat.le_trans (sam_le (a := part7 f g) (b := part7 h g) (n := g) (fun n hn => part7_le f (by omega) hn) (fun n hn => part7_le h (by omega) hn) (Nat.le_refl _)) hsq
        obtain ⟨G, hG⟩ : ∃ G, G = 2 * g := ⟨_, rfl⟩
        have hG2 : (2 : Int) * (g : Int) = (G : Int) := by omega
        have hGl : G ≤ 16 := by omega
        rw [← hG]
        have Ho := Lib.hid (fun w => l2AllL G w hGl)
        have hWl : 6 ^ G ≤ 2821109907456 := Nat.le_trans (Nat.pow_le_pow_right (by omega) hGl) (by decide)
        have hW1 : 1 ≤ 6 ^ G := Nat.one_le_pow _ _ (by omega)
        rw [show all6 G = 6 ^ G from rfl] at Ho
        clear hpg hsq hG
        generalize bef (part7 f g) (part7 h g) g g = x at *
        generalize same (part7 f g) (part7 h g) g = y at *
        generalize 6 ^ G = V at *
        obtain ⟨z, hz⟩ : ∃ z, z = x + y := ⟨_, rfl⟩
        have hzz : (x : Int) + (y : Int) = (z : Int) := by omega
        rw [← hz]
        have hzl : z ≤ 5642219814912 := by omega
        clear hz
        have Hcut : Hid (∀ w, Calls Try.prog 55 #[.int .i64 (z : Nat), .int .i64 (V : Nat)] w fun e w' => e = .returned (v2 (num z V : Nat) (den z V : Nat)) ∧ Below w.heap.size w w') := fun w => FracL.cutL z V w (by omega) (by omega) hW1
        generalize num z V = x0 at *
        generalize den z V = y0 at *
        unfold dv
        have hB := na (na (na (n0 w) (sixO a 22)) (sixO b 22)) (.cells #[.int .i64 0, .int .i64 0] 30)
        have hDa := ((At.new6 w a 22 rfl).past (sixO b 22)).past (.cells #[.int .i64 0, .int .i64 0] 30)
        have hDb := (At.new6 (w.alloc (sixO a 22)) b 22 (b := w.heap.size + 1) (by rw [size_alloc])).past (.cells #[.int .i64 0, .int .i64 0] 30)
        have hRX := At.new2 ((w.alloc (sixO a 22)).alloc (sixO b 22)) 30
        rw [size_alloc, size_alloc] at hRX
        obtain ⟨e0, e1, e2, e3, e4, e5⟩ := hDa.six
        go_enter Try.func26, Try.ntmps26
        go_wp2_with fail
        refine (Hc.out _).mono ?_
        rintro e w1 ⟨rfl, hb1⟩
        have hDa := hDa.up hb1
        have hDb := hDb.up hb1
        have hRX := hRX.up hb1
        have hB := nx hB hb1
        clear hb1
        clear e0 e1 e2 e3 e4 e5
        obtain ⟨f0, f1, f2, f3, f4, f5⟩ := hDb.six
        go_wp2_with fail
        refine (Hc'.out _).mono ?_
        rintro e w2 ⟨rfl, hb2⟩
        have hDa := hDa.up hb2
        have hDb := hDb.up hb2
        have hRX := hRX.up hb2
        have hB := nx hB hb2
        clear hb2
        clear f0 f1 f2 f3 f4 f5
        go_wp2_with fail
        refine (Hg.out _).mono ?_
        rintro e w3 ⟨rfl, hw3⟩
        have hw3 := hw3.symm
        subst hw3
        obtain ⟨e0, e1, e2, e3, e4, e5⟩ := hDa.six
        obtain ⟨f0, f1, f2, f3, f4, f5⟩ := hDb.six
        go_wp2_with fail
        refine (Hm.out _).mono ?_
        rintro e w4 ⟨rfl, hb4⟩
        have hRX := hRX.up hb4
        have hB := nx hB hb4
        clear hb4
        clear e0 e1 e2 e3 e4 e5
        clear f0 f1 f2 f3 f4 f5
        go_wp2_with fail
        refine (Ho.out _).mono ?_
        rintro e w5 ⟨rfl, hw5⟩
        have hw5 := hw5.symm
        subst hw5
        go_wp2_with fail
        refine (Hcut.out _).mono ?_
        rintro e w6 ⟨rfl, hb6⟩
        have hRX := hRX.up hb6
        have hB := nx hB hb6
        clear hb6
        have c0 := hRX.cell 0 (by omega)
        have c1 := hRX.cell 1 (by omega)
        have z0 := hRX.free 0
        have z1 := hRX.free 1
        go_wp2_with fail
        refine ret_cell_tmp (b := w.heap.size + 1 + 1) (n := 2) (f := fr x0 y0) Try.results26 rfl rfl Try.underlying30 (by kernel_rfl) (fin2' hRX _ _) rfl ⟨rfl, ?_⟩
        exact (hB.setCell (p := ⟨w.heap.size + 1 + 1, 0, none⟩) (by show w.heap.size ≤ w.heap.size + 1 + 1; omega) _).setCell (p := ⟨w.heap.size + 1 + 1, 1, none⟩) (by show w.heap.size ≤ w.heap.size + 1 + 1; omega) _
      · rw [decide_eq_false hgg] at hgo
        have hno : okF a b g = false := okF_3 hgg
        have Hg := Lib.hid hgo; clear hgo
        rw [hno, (first_no hno).1, (first_no hno).2]
        clear hr hr2 hno hgg
        unfold dv
        have hB := na (na (na (n0 w) (sixO a 22)) (sixO b 22)) (.cells #[.int .i64 0, .int .i64 0] 30)
        have hDa := ((At.new6 w a 22 rfl).past (sixO b 22)).past (.cells #[.int .i64 0, .int .i64 0] 30)
        have hDb := (At.new6 (w.alloc (sixO a 22)) b 22 (b := w.heap.size + 1) (by rw [size_alloc])).past (.cells #[.int .i64 0, .int .i64 0] 30)
        have hRX := At.new2 ((w.alloc (sixO a 22)).alloc (sixO b 22)) 30
        rw [size_alloc, size_alloc] at hRX
        obtain ⟨e0, e1, e2, e3, e4, e5⟩ := hDa.six
        go_enter Try.func26, Try.ntmps26
        go_wp2_with fail
        refine (Hc.out _).mono ?_
        rintro e w1 ⟨rfl, hb1⟩
        have hDa := hDa.up hb1
        have hDb := hDb.up hb1
        have hRX := hRX.up hb1
        have hB := nx hB hb1
        clear hb1
        clear e0 e1 e2 e3 e4 e5
        obtain ⟨f0, f1, f2, f3, f4, f5⟩ := hDb.six
        go_wp2_with fail
        refine (Hc'.out _).mono ?_
        rintro e w2 ⟨rfl, hb2⟩
        have hDa := hDa.up hb2
        have hDb := hDb.up hb2
        have hRX := hRX.up hb2
        have hB := nx hB hb2
        clear hb2
        clear f0 f1 f2 f3 f4 f5
        go_wp2_with fail
        refine (Hg.out _).mono ?_
        rintro e w3 ⟨rfl, hw3⟩
        have hw3 := hw3.symm
        subst hw3
        have c0 := hRX.cell 0 (by omega)
        have c1 := hRX.cell 1 (by omega)
        have z0 := hRX.free 0
        have z1 := hRX.free 1
        go_wp2_with fail
        refine ret_cell_tmp (b := w.heap.size + 1 + 1) (n := 2) (f := fr 0 0) Try.results26 rfl rfl Try.underlying30 (by kernel_rfl) (fin2' hRX _ _) rfl ⟨rfl, ?_⟩
        exact (hB.setCell (p := ⟨w.heap.size + 1 + 1, 0, none⟩) (by show w.heap.size ≤ w.heap.size + 1 + 1; omega) _).setCell (p := ⟨w.heap.size + 1 + 1, 1, none⟩) (by show w.heap.size ≤ w.heap.size + 1 + 1; omega) _

set_option maxRecDepth 100000 in
set_option maxHeartbeats 16000000 in
theorem implSameRound_any (a b : Nat → Int) (g : Int) (w : World) :
    Calls Try.prog 29 #[dv a, dv b, .int .i64 g] w fun e w' => e = .returned (.tuple #[v2 (samex a b g) (samey a b g), .bool (okF a b g)]) ∧ Below w.heap.size w w' := by
  have hc := fun w => canRun_any a g w
  have hc' := fun w => canRun_any b g w
  unfold dv at hc hc'
  have Hc := Lib.hid hc; clear hc
  have Hc' := Lib.hid hc'; clear hc'
  cases hok : okR a g
  · rw [hok] at Hc
    have hno : okF a b g = false := okF_a hok
    rw [hno, (same_no hno).1, (same_no hno).2]
    clear hok hno
    unfold dv
    have hB := na (na (na (n0 w) (sixO a 22)) (sixO b 22)) (.cells #[.int .i64 0, .int .i64 0] 30)
    have hDa := ((At.new6 w a 22 rfl).past (sixO b 22)).past (.cells #[.int .i64 0, .int .i64 0] 30)
    have hDb := (At.new6 (w.alloc (sixO a 22)) b 22 (b := w.heap.size + 1) (by rw [size_alloc])).past (.cells #[.int .i64 0, .int .i64 0] 30)
    have hRX := At.new2 ((w.alloc (sixO a 22)).alloc (sixO b 22)) 30
    rw [size_alloc, size_alloc] at hRX
    obtain ⟨e0, e1, e2, e3, e4, e5⟩ := hDa.six
    obtain ⟨f0, f1, f2, f3, f4, f5⟩ := hDb.six
    go_enter Try.func29, Try.ntmps29
    go_wp2_with fail
    refine (Hc.out _).mono ?_
    rintro e w1 ⟨rfl, hb1⟩
    have hDa := hDa.up hb1
    have hDb := hDb.up hb1
    have hRX := hRX.up hb1
    have hB := nx hB hb1
    clear hb1
    clear e0 e1 e2 e3 e4 e5
    clear f0 f1 f2 f3 f4 f5
    have c0 := hRX.cell 0 (by omega)
    have c1 := hRX.cell 1 (by omega)
    have z0 := hRX.free 0
    have z1 := hRX.free 1
    go_wp2_with fail
    refine ret_cell_tmp (b := w.heap.size + 1 + 1) (n := 2) (f := fr 0 0) Try.results29 rfl rfl Try.underlying30 (by kernel_rfl) (fin2' hRX _ _) rfl ⟨rfl, ?_⟩
    exact (hB.setCell (p := ⟨w.heap.size + 1 + 1, 0, none⟩) (by show w.heap.size ≤ w.heap.size + 1 + 1; omega) _).setCell (p := ⟨w.heap.size + 1 + 1, 1, none⟩) (by show w.heap.size ≤ w.heap.size + 1 + 1; omega) _
  · rw [hok] at Hc
    cases hok2 : okR b g
    · rw [hok2] at Hc'
      have hno : okF a b g = false := okF_b hok2
      rw [hno, (same_no hno).1, (same_no hno).2]
      clear hok hok2 hno
      unfold dv
      have hB := na (na (na (n0 w) (sixO a 22)) (sixO b 22)) (.cells #[.int .i64 0, .int .i64 0] 30)
      have hDa := ((At.new6 w a 22 rfl).past (sixO b 22)).past (.cells #[.int .i64 0, .int .i64 0] 30)
      have hDb := (At.new6 (w.alloc (sixO a 22)) b 22 (b := w.heap.size + 1) (by rw [size_alloc])).past (.cells #[.int .i64 0, .int .i64 0] 30)
      have hRX := At.new2 ((w.alloc (sixO a 22)).alloc (sixO b 22)) 30
      rw [size_alloc, size_alloc] at hRX
      obtain ⟨e0, e1, e2, e3, e4, e5⟩ := hDa.six
      go_enter Try.func29, Try.ntmps29
      go_wp2_with fail
      refine (Hc.out _).mono ?_
      rintro e w1 ⟨rfl, hb1⟩
      have hDa := hDa.up hb1
      have hDb := hDb.up hb1
      have hRX := hRX.up hb1
      have hB := nx hB hb1
      clear hb1
      clear e0 e1 e2 e3 e4 e5
      obtain ⟨f0, f1, f2, f3, f4, f5⟩ := hDb.six
      go_wp2_with fail
      refine (Hc'.out _).mono ?_
      rintro e w2 ⟨rfl, hb2⟩
      have hDa := hDa.up hb2
      have hDb := hDb.up hb2
      have hRX := hRX.up hb2
      have hB := nx hB hb2
      clear hb2
      clear f0 f1 f2 f3 f4 f5
      have c0 := hRX.cell 0 (by omega)
      have c1 := hRX.cell 1 (by omega)
      have z0 := hRX.free 0
      have z1 := hRX.free 1
      go_wp2_with fail
      refine ret_cell_tmp (b := w.heap.size + 1 + 1) (n := 2) (f := fr 0 0) Try.results29 rfl rfl Try.underlying30 (by kernel_rfl) (fin2' hRX _ _) rfl ⟨rfl, ?_⟩
      exact (hB.setCell (p := ⟨w.heap.size + 1 + 1, 0, none⟩) (by show w.heap.size ≤ w.heap.size + 1 + 1; omega) _).setCell (p := ⟨w.heap.size + 1 + 1, 1, none⟩) (by show w.heap.size ≤ w.heap.size + 1 + 1; omega) _
    · rw [hok2] at Hc'
      obtain ⟨hr, h1, h8⟩ := of_okR hok
      obtain ⟨hr2, _, _⟩ := of_okR hok2
      have hyes : okF a b g = true := okF_yes hr hr2 ⟨h1, h8⟩
      obtain ⟨g, rfl⟩ : ∃ m : Nat, g = m := ⟨g.toNat, by omega⟩
      rw [hyes, (same_yes hyes).1, (same_yes hyes).2]
      unfold sameN
      have hd := faces_of hr
      have hd2 := faces_of hr2
      generalize face a = f at *
      generalize face b = h at *
      clear hok hok2 hr hr2 hyes
      have hma := fun w => implEnds_any a f g w hd (by omega) (by omega)
      have hmb := fun w => implEnds_any b h g w hd2 (by omega) (by omega)
      unfold dv at hma hmb
      have Hma := Lib.hid hma; clear hma
      have Hmb := Lib.hid hmb; clear hmb
      have Ho := Lib.hid (fun w => outcomesL 8 w (by omega))
      rw [show all6 8 = 1679616 from by decide] at Ho
      have Ho2 := Lib.hid (fun w => outcomesL 16 w (by omega))
      rw [show all6 16 = 2821109907456 from by decide] at Ho2
      have hAl := fun n (hn : n ≤ g) => ends_le f (g := g) (n := n) (by omega) (by omega) hn
      have hBl := fun n (hn : n ≤ g) => ends_le h (g := g) (n := n) (by omega) (by omega) hn
      have hw : ∀ n, n ≤ g → same (ends f g) (ends h g) n ≤ 2821109907456 := fun n hn => sam_le hAl hBl hn
      have Hal := Lib.hid (fun n (hn : n < g) => ends_one f (g := g) (j := n) (by omega) (by omega) hn)
      have Hbl := Lib.hid hBl
      have hcut : ∀ w, Calls Try.prog 59 #[.int .i64 (same (ends f g) (ends h g) g : Nat), .int .i64 2821109907456] w fun e w' => e = .returned (v2 (num (same (ends f g) (ends h g) g) 2821109907456 : Nat) (den (same (ends f g) (ends h g) g) 2821109907456 : Nat)) ∧ Below w.heap.size w w' := fun w => FracL.fractionL (same (ends f g) (ends h g) g) 2821109907456 w (by have := hw g (Nat.le_refl _); omega) (by omega) (by omega)
      rw [(same_cut f h (show g ≤ 8 by omega)).1, (same_cut f h (show g ≤ 8 by omega)).2] at hcut
      have Hw := Lib.hid hw
      have Hcut := Lib.hid hcut
      clear hcut hw hAl hBl hd hd2
      generalize hx0 : num (same (part7 f g) (part7 h g) g) (6 ^ (2 * g)) = x0 at *
      generalize hy0 : den (same (part7 f g) (part7 h g) g) (6 ^ (2 * g)) = y0 at *
      clear hx0 hy0
      generalize ends f g = A at *
      generalize ends h g = B at *
      unfold dv
      have hB := na (na (na (n0 w) (sixO a 22)) (sixO b 22)) (.cells #[.int .i64 0, .int .i64 0] 30)
      have hDa := ((At.new6 w a 22 rfl).past (sixO b 22)).past (.cells #[.int .i64 0, .int .i64 0] 30)
      have hDb := (At.new6 (w.alloc (sixO a 22)) b 22 (b := w.heap.size + 1) (by rw [size_alloc])).past (.cells #[.int .i64 0, .int .i64 0] 30)
      have hRX := At.new2 ((w.alloc (sixO a 22)).alloc (sixO b 22)) 30
      rw [size_alloc, size_alloc] at hRX
      obtain ⟨e0, e1, e2, e3, e4, e5⟩ := hDa.six
      go_enter Try.func29, Try.ntmps29
      go_wp2_with fail
      refine (Hc.out _).mono ?_
      rintro e w1 ⟨rfl, hb1⟩
      have hDa := hDa.up hb1
      have hDb := hDb.up hb1
      have hRX := hRX.up hb1
      have hB := nx hB hb1
      clear hb1
      clear e0 e1 e2 e3 e4 e5
      obtain ⟨f0, f1, f2, f3, f4, f5⟩ := hDb.six
      go_wp2_with fail
      refine (Hc'.out _).mono ?_
      rintro e w2 ⟨rfl, hb2⟩
      have hDa := hDa.up hb2
      have hDb := hDb.up hb2
      have hRX := hRX.up hb2
      have hB := nx hB hb2
      clear hb2
      clear f0 f1 f2 f3 f4 f5
      obtain ⟨f0, f1, f2, f3, f4, f5⟩ := hDb.six
      go_wp2_with fail
      refine (Hmb.out _).mono ?_
      rintro e w3 ⟨bb, rfl, _, hAb, hb3⟩
      have hDa := hDa.up hb3
      have hDb := hDb.up hb3
      have hRX := hRX.up hb3
      have hB := nx hB hb3
      clear hb3
      clear f0 f1 f2 f3 f4 f5
      obtain ⟨e0, e1, e2, e3, e4, e5⟩ := hDa.six
      go_wp2_with fail
      refine (Hma.out _).mono ?_
      rintro e w5 ⟨ba, rfl, _, hAa, hb5⟩
      have hDa := hDa.up hb5
      have hDb := hDb.up hb5
      have hRX := hRX.up hb5
      have hAb := hAb.up hb5
      have hB := nx hB hb5
      clear hb5
      clear e0 e1 e2 e3 e4 e5
      clear hDa hDb
      go_wp2_with fail
      go_loop [9, 30] (fun sv kv => ∃ k : Nat, k ≤ g ∧ kv = .int .i64 k ∧ sv = .int .i64 (same A B k : Nat)) (fun _ kv => g - (intOf kv).toNat)
      case atStart => exact ⟨0, by omega, rfl, rfl⟩
      case round =>
        obtain ⟨k, hk, rfl, rfl⟩ := hrel
        by_cases hlt : k < g
        · have hit : decide ((k : Int) < (g : Int)) = true := decide_eq_true (by omega)
          have ca := hAa.cell k hlt
          have cb := hAb.cell k hlt
          have hs : Hid (same A B (k + 1) = same A B k + A k * B k) := rfl
          have hs2 := Hw.out (k + 1) hlt
          rw [hs.out] at hs2
          obtain ⟨p, hp⟩ : ∃ p, A k * B k = p := ⟨_, rfl⟩
          rw [hp] at hs hs2
          have hm : (A k : Int) * (B k : Int) = (p : Int) := by rw [← hp]; push_cast; rfl
          clear hp
          generalize hz : same A B k = z at *
          generalize B k = bk at *
          generalize A k = ak at *
          have Hz := Lib.hid hz; clear hz
          go_wp2_with fail
          go_round
          case rel => exact ⟨k + 1, by omega, by go_num, by rw [hs.out]; go_num⟩
          case measure => simp [intOf]; omega
        · obtain rfl : k = g := by omega
          have hit : decide ((k : Int) < (k : Int)) = false := decide_eq_false (by omega)
          go_wp2_with fail
          refine (Ho2.out _).mono ?_
          rintro e w6 ⟨rfl, hw6⟩
          have hw6 := hw6.symm
          subst hw6
          go_wp2_with fail
          refine (Hcut.out _).mono ?_
          rintro e w7 ⟨rfl, hb7⟩
          have hRX := hRX.up hb7
          have hB := nx hB hb7
          clear hb7
          have c0 := hRX.cell 0 (by omega)
          have c1 := hRX.cell 1 (by omega)
          have z0 := hRX.free 0
          have z1 := hRX.free 1
          go_wp2_with fail
          refine ret_cell_tmp (b := w.heap.size + 1 + 1) (n := 2) (f := fr x0 y0) Try.results29 rfl rfl Try.underlying30 (by kernel_rfl) (fin2' hRX _ _) rfl ⟨rfl, ?_⟩
          exact (hB.setCell (p := ⟨w.heap.size + 1 + 1, 0, none⟩) (by show w.heap.size ≤ w.heap.size + 1 + 1; omega) _).setCell (p := ⟨w.heap.size + 1 + 1, 1, none⟩) (by show w.heap.size ≤ w.heap.size + 1 + 1; omega) _

set_option maxRecDepth 100000 in
set_option maxHeartbeats 16000000 in
theorem specSameRound_any (a b : Nat → Int) (g : Int) (w : World) :
    Calls Try.prog 28 #[dv a, dv b, .int .i64 g] w fun e w' => e = .returned (.tuple #[v2 (samex a b g) (samey a b g), .bool (okF a b g)]) ∧ Below w.heap.size w w' := by
  have hc := fun w => specRunner_any a w
  have hc' := fun w => specRunner_any b w
  unfold dv at hc hc'
  have Hc := Lib.hid hc; clear hc
  have Hc' := Lib.hid hc'; clear hc'
  have hgo := fun w => specGoal_any g w
  cases hr : isRun a
  · rw [hr] at Hc
    have hno : okF a b g = false := okF_1 hr
    rw [hno, (same_no hno).1, (same_no hno).2]
    clear hr hno hgo
    unfold dv
    have hB := na (na (na (n0 w) (sixO a 22)) (sixO b 22)) (.cells #[.int .i64 0, .int .i64 0] 30)
    have hDa := ((At.new6 w a 22 rfl).past (sixO b 22)).past (.cells #[.int .i64 0, .int .i64 0] 30)
    have hDb := (At.new6 (w.alloc (sixO a 22)) b 22 (b := w.heap.size + 1) (by rw [size_alloc])).past (.cells #[.int .i64 0, .int .i64 0] 30)
    have hRX := At.new2 ((w.alloc (sixO a 22)).alloc (sixO b 22)) 30
    rw [size_alloc, size_alloc] at hRX
    obtain ⟨e0, e1, e2, e3, e4, e5⟩ := hDa.six
    obtain ⟨f0, f1, f2, f3, f4, f5⟩ := hDb.six
    go_enter Try.func28, Try.ntmps28
    go_wp2_with fail
    refine (Hc.out _).mono ?_
    rintro e w1 ⟨rfl, hb1⟩
    have hDa := hDa.up hb1
    have hDb := hDb.up hb1
    have hRX := hRX.up hb1
    have hB := nx hB hb1
    clear hb1
    clear e0 e1 e2 e3 e4 e5
    clear f0 f1 f2 f3 f4 f5
    have c0 := hRX.cell 0 (by omega)
    have c1 := hRX.cell 1 (by omega)
    have z0 := hRX.free 0
    have z1 := hRX.free 1
    go_wp2_with fail
    refine ret_cell_tmp (b := w.heap.size + 1 + 1) (n := 2) (f := fr 0 0) Try.results28 rfl rfl Try.underlying30 (by kernel_rfl) (fin2' hRX _ _) rfl ⟨rfl, ?_⟩
    exact (hB.setCell (p := ⟨w.heap.size + 1 + 1, 0, none⟩) (by show w.heap.size ≤ w.heap.size + 1 + 1; omega) _).setCell (p := ⟨w.heap.size + 1 + 1, 1, none⟩) (by show w.heap.size ≤ w.heap.size + 1 + 1; omega) _
  · rw [hr] at Hc
    cases hr2 : isRun b
    · rw [hr2] at Hc'
      have hno : okF a b g = false := okF_2 hr2
      rw [hno, (same_no hno).1, (same_no hno).2]
      clear hr hr2 hno hgo
      unfold dv
      have hB := na (na (na (n0 w) (sixO a 22)) (sixO b 22)) (.cells #[.int .i64 0, .int .i64 0] 30)
      have hDa := ((At.new6 w a 22 rfl).past (sixO b 22)).past (.cells #[.int .i64 0, .int .i64 0] 30)
      have hDb := (At.new6 (w.alloc (sixO a 22)) b 22 (b := w.heap.size + 1) (by rw [size_alloc])).past (.cells #[.int .i64 0, .int .i64 0] 30)
      have hRX := At.new2 ((w.alloc (sixO a 22)).alloc (sixO b 22)) 30
      rw [size_alloc, size_alloc] at hRX
      obtain ⟨e0, e1, e2, e3, e4, e5⟩ := hDa.six
      go_enter Try.func28, Try.ntmps28
      go_wp2_with fail
      refine (Hc.out _).mono ?_
      rintro e w1 ⟨rfl, hb1⟩
      have hDa := hDa.up hb1
      have hDb := hDb.up hb1
      have hRX := hRX.up hb1
      have hB := nx hB hb1
      clear hb1
      clear e0 e1 e2 e3 e4 e5
      obtain ⟨f0, f1, f2, f3, f4, f5⟩ := hDb.six
      go_wp2_with fail
      refine (Hc'.out _).mono ?_
      rintro e w2 ⟨rfl, hb2⟩
      have hDa := hDa.up hb2
      have hDb := hDb.up hb2
      have hRX := hRX.up hb2
      have hB := nx hB hb2
      clear hb2
      clear f0 f1 f2 f3 f4 f5
      have c0 := hRX.cell 0 (by omega)
      have c1 := hRX.cell 1 (by omega)
      have z0 := hRX.free 0
      have z1 := hRX.free 1
      go_wp2_with fail
      refine ret_cell_tmp (b := w.heap.size + 1 + 1) (n := 2) (f := fr 0 0) Try.results28 rfl rfl Try.underlying30 (by kernel_rfl) (fin2' hRX _ _) rfl ⟨rfl, ?_⟩
      exact (hB.setCell (p := ⟨w.heap.size + 1 + 1, 0, none⟩) (by show w.heap.size ≤ w.heap.size + 1 + 1; omega) _).setCell (p := ⟨w.heap.size + 1 + 1, 1, none⟩) (by show w.heap.size ≤ w.heap.size + 1 + 1; omega) _
    · rw [hr2] at Hc'
      by_cases hgg : 1 ≤ g ∧ g ≤ 8
      · rw [decide_eq_true hgg] at hgo
        have hyes : okF a b g = true := okF_yes hr hr2 hgg
        have Hg := Lib.hid hgo; clear hgo
        obtain ⟨h1, h8⟩ := hgg
        obtain ⟨g, rfl⟩ : ∃ m : Nat, g = m := ⟨g.toNat, by omega⟩
        rw [hyes, (same_yes hyes).1, (same_yes hyes).2]
        unfold sameN
        have hd := faces_of hr
        have hd2 := faces_of hr2
        generalize face a = f at *
        generalize face b = h at *
        clear hr hr2 hyes
        have hm := fun w => race_any a b f h g w hd hd2 (by omega) (by omega)
        unfold dv at hm
        have Hm := Lib.hid hm; clear hm hd hd2
        have hpg := pow_six (show g ≤ 8 by omega)
        have hsq : 6 ^ g * 6 ^ g ≤ 2821109907456 := Nat.mul_le_mul hpg.1 hpg.1
        have hb1 := Nat.le_trans (bef_le (a := part7 f g) (b := part7 h g) (n := g) (fun n hn => part7_le f (by omega) hn) (fun n hn => part7_le h (by omega) hn) (Nat.le_refl _)) hsq
        have hb2 := Nat.le_trans (sam_le (a := part7 f g) (b := part7 h g) (n := g) (fun n hn => part7_le f (by omega) hn) (fun n hn => part7_le h (by omega) hn) (Nat.le_refl _)) hsq
        obtain ⟨G, hG⟩ : ∃ G, G = 2 * g := ⟨_, rfl⟩
        have hG2 : (2 : Int) * (g : Int) = (G : Int) := by omega
        have hGl : G ≤ 16 := by omega
        rw [← hG]
        have Ho := Lib.hid (fun w => l2AllL G w hGl)
        have hWl : 6 ^ G ≤ 2821109907456 := Nat.le_trans (Nat.pow_le_pow_right (by omega) hGl) (by decide)
        have hW1 : 1 ≤ 6 ^ G := Nat.one_le_pow _ _ (by omega)
        rw [show all6 G = 6 ^ G from rfl] at Ho
        clear hpg hsq hG
        generalize bef (part7 f g) (part7 h g) g g = x at *
        generalize same (part7 f g) (part7 h g) g = y at *
        generalize 6 ^ G = V at *
        obtain ⟨z, hz⟩ : ∃ z, z = y := ⟨_, rfl⟩
        subst hz
        have hzl : z ≤ 5642219814912 := by omega
        have Hcut : Hid (∀ w, Calls Try.prog 55 #[.int .i64 (z : Nat), .int .i64 (V : Nat)] w fun e w' => e = .returned (v2 (num z V : Nat) (den z V : Nat)) ∧ Below w.heap.size w w') := fun w => FracL.cutL z V w (by omega) (by omega) hW1
        generalize num z V = x0 at *
        generalize den z V = y0 at *
        unfold dv
        have hB := na (na (na (n0 w) (sixO a 22)) (sixO b 22)) (.cells #[.int .i64 0, .int .i64 0] 30)
        have hDa := ((At.new6 w a 22 rfl).past (sixO b 22)).past (.cells #[.int .i64 0, .int .i64 0] 30)
        have hDb := (At.new6 (w.alloc (sixO a 22)) b 22 (b := w.heap.size + 1) (by rw [size_alloc])).past (.cells #[.int .i64 0, .int .i64 0] 30)
        have hRX := At.new2 ((w.alloc (sixO a 22)).alloc (sixO b 22)) 30
        rw [size_alloc, size_alloc] at hRX
        obtain ⟨e0, e1, e2, e3, e4, e5⟩ := hDa.six
        go_enter Try.func28, Try.ntmps28
        go_wp2_with fail
        refine (Hc.out _).mono ?_
        rintro e w1 ⟨rfl, hb1⟩
        have hDa := hDa.up hb1
        have hDb := hDb.up hb1
        have hRX := hRX.up hb1
        have hB := nx hB hb1
        clear hb1
        clear e0 e1 e2 e3 e4 e5
        obtain ⟨f0, f1, f2, f3, f4, f5⟩ := hDb.six
        go_wp2_with fail
        refine (Hc'.out _).mono ?_
        rintro e w2 ⟨rfl, hb2⟩
        have hDa := hDa.up hb2
        have hDb := hDb.up hb2
        have hRX := hRX.up hb2
        have hB := nx hB hb2
        clear hb2
        clear f0 f1 f2 f3 f4 f5
        go_wp2_with fail
        refine (Hg.out _).mono ?_
        rintro e w3 ⟨rfl, hw3⟩
        have hw3 := hw3.symm
        subst hw3
        obtain ⟨e0, e1, e2, e3, e4, e5⟩ := hDa.six
        obtain ⟨f0, f1, f2, f3, f4, f5⟩ := hDb.six
        go_wp2_with fail
        refine (Hm.out _).mono ?_
        rintro e w4 ⟨rfl, hb4⟩
        have hRX := hRX.up hb4
        have hB := nx hB hb4
        clear hb4
        clear e0 e1 e2 e3 e4 e5
        clear f0 f1 f2 f3 f4 f5
        go_wp2_with fail
        refine (Ho.out _).mono ?_
        rintro e w5 ⟨rfl, hw5⟩
        have hw5 := hw5.symm
        subst hw5
        go_wp2_with fail
        refine (Hcut.out _).mono ?_
        rintro e w6 ⟨rfl, hb6⟩
        have hRX := hRX.up hb6
        have hB := nx hB hb6
        clear hb6
        have c0 := hRX.cell 0 (by omega)
        have c1 := hRX.cell 1 (by omega)
        have z0 := hRX.free 0
        have z1 := hRX.free 1
        go_wp2_with fail
        refine ret_cell_tmp (b := w.heap.size + 1 + 1) (n := 2) (f := fr x0 y0) Try.results28 rfl rfl Try.underlying30 (by kernel_rfl) (fin2' hRX _ _) rfl ⟨rfl, ?_⟩
        exact (hB.setCell (p := ⟨w.heap.size + 1 + 1, 0, none⟩) (by show w.heap.size ≤ w.heap.size + 1 + 1; omega) _).setCell (p := ⟨w.heap.size + 1 + 1, 1, none⟩) (by show w.heap.size ≤ w.heap.size + 1 + 1; omega) _
      · rw [decide_eq_false hgg] at hgo
        have hno : okF a b g = false := okF_3 hgg
        have Hg := Lib.hid hgo; clear hgo
        rw [hno, (same_no hno).1, (same_no hno).2]
        clear hr hr2 hno hgg
        unfold dv
        have hB := na (na (na (n0 w) (sixO a 22)) (sixO b 22)) (.cells #[.int .i64 0, .int .i64 0] 30)
        have hDa := ((At.new6 w a 22 rfl).past (sixO b 22)).past (.cells #[.int .i64 0, .int .i64 0] 30)
        have hDb := (At.new6 (w.alloc (sixO a 22)) b 22 (b := w.heap.size + 1) (by rw [size_alloc])).past (.cells #[.int .i64 0, .int .i64 0] 30)
        have hRX := At.new2 ((w.alloc (sixO a 22)).alloc (sixO b 22)) 30
        rw [size_alloc, size_alloc] at hRX
        obtain ⟨e0, e1, e2, e3, e4, e5⟩ := hDa.six
        go_enter Try.func28, Try.ntmps28
        go_wp2_with fail
        refine (Hc.out _).mono ?_
        rintro e w1 ⟨rfl, hb1⟩
        have hDa := hDa.up hb1
        have hDb := hDb.up hb1
        have hRX := hRX.up hb1
        have hB := nx hB hb1
        clear hb1
        clear e0 e1 e2 e3 e4 e5
        obtain ⟨f0, f1, f2, f3, f4, f5⟩ := hDb.six
        go_wp2_with fail
        refine (Hc'.out _).mono ?_
        rintro e w2 ⟨rfl, hb2⟩
        have hDa := hDa.up hb2
        have hDb := hDb.up hb2
        have hRX := hRX.up hb2
        have hB := nx hB hb2
        clear hb2
        clear f0 f1 f2 f3 f4 f5
        go_wp2_with fail
        refine (Hg.out _).mono ?_
        rintro e w3 ⟨rfl, hw3⟩
        have hw3 := hw3.symm
        subst hw3
        have c0 := hRX.cell 0 (by omega)
        have c1 := hRX.cell 1 (by omega)
        have z0 := hRX.free 0
        have z1 := hRX.free 1
        go_wp2_with fail
        refine ret_cell_tmp (b := w.heap.size + 1 + 1) (n := 2) (f := fr 0 0) Try.results28 rfl rfl Try.underlying30 (by kernel_rfl) (fin2' hRX _ _) rfl ⟨rfl, ?_⟩
        exact (hB.setCell (p := ⟨w.heap.size + 1 + 1, 0, none⟩) (by show w.heap.size ≤ w.heap.size + 1 + 1; omega) _).setCell (p := ⟨w.heap.size + 1 + 1, 1, none⟩) (by show w.heap.size ≤ w.heap.size + 1 + 1; omega) _


end Races
end Go.Proofs.Ytcffglnfdnanhaa
