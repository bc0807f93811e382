/-
  BoundFor, by the model.
-/
import Derived.Test.YtbcaahaaaodhkaaRows
import Derived.Test.YtbcaahaaaodhkaaBndI
import Derived.Test.YtbcaahaaaodhkaaHitC
import Derived.Test.YtbcaahaaaodhkaaHitW
import Derived.Test.YtbcaahaaaodhkaaHits
import Derived.Test.YtbcaahaaaodhkaaFive
import Derived.Test.YtbcaahaaaodhkaaFracW
import Derived.Test.YtbcaahaaaodhkaaCutW
import Derived.Test.YtbcaahaaaodhkaaPoolW
import Derived.Test.YtbcaahaaaodhkaaAll6
import Derived.Test.YtbcaahaaaodhkaaDicesW
import Derived.Test.YtbcaahaaaodhkaaOpenD
import Derived.WalkKit
import Derived.WalkLawsBesides
import Derived.WalkSpells
import Derived.ProofKit
import Derived.OpenShut
import Derived.Deep.RegionWith
import Derived.Deep.QuietTactic
import Derived.BigQuiet
namespace Go.Proofs.Ytbcaahaaaodhkaa
open Go.ChangeShapes Go.WideShapes Go.ChangeAt Go.RowKit
open Go.ChangeMaps (open_string shut_string)

namespace BndS
open Dice Arr OpenD DieW SortW DicesW PoolW All6 FracW CutW Hits Five HitC BndI

set_option maxHeartbeats 4000000 in
theorem specBnd_any (A : Option Addr) (n c : Nat) (P : Nat → Nat → Int) (k t m : Int) (w : World) (h : Row w A n P) (hn : n ≤ maxLen) :
    Calls Try.prog 34 #[.slice A n c, .int .i64 k, .int .i64 t, .int .i64 m] w fun e w' => e = .returned (.tuple (if isPool n P && (decide (1 ≤ k ∧ k ≤ 4) && (decide (1 ≤ m ∧ m ≤ 1000) && decide (0 ≤ t ∧ t ≤ m))) then #[.int .i64 (bf (hit P n k t m) 32).1, .bool (bf (hit P n k t m) 32).2] else #[.int .i64 0, .bool false])) ∧ Below w.heap.size w w' := by
  have hp := fun w h => l2Pool_any A n c P w h hn
  have i1 := fun w => l1In_any k 1 4 w
  have i2 := fun w => l1In_any m 1 1000 w
  have i3 := fun w => l1In_any t 0 m w
  have H := Lib.hid h; clear h
  cases hq : isPool n P
  · rw [hq] at hp
    simp only [Bool.false_and, Bool.false_eq_true, ↓reduceIte]
    have Hp := Lib.hid hp; clear hp hq i1 i2 i3
    go_enter Try.func34, Try.ntmps34
    go_wp2_with fail
    refine (Hp.out _ H.out).mono ?_
    rintro e w1 ⟨rfl, hb⟩
    go_wp2_with fail
    go_ret2
    exact ⟨rfl, hb⟩
  rw [hq] at hp
  have Hp := Lib.hid hp; clear hp
  cases q1 : decide (1 ≤ k ∧ k ≤ 4)
  · rw [q1] at i1
    simp only [Bool.false_and, Bool.and_false, Bool.false_eq_true, ↓reduceIte]
    have I1 := Lib.hid i1; clear i1 i2 i3 q1 hq
    go_enter Try.func34, Try.ntmps34
    go_wp2_with fail
    refine (Hp.out _ H.out).mono ?_
    rintro e w1 ⟨rfl, hb⟩
    go_wp2_with fail
    refine (I1.out _).mono ?_
    rintro e w9 ⟨rfl, hw9⟩
    have hw9 := hw9.symm
    subst hw9
    go_wp2_with fail
    go_ret2
    exact ⟨rfl, hb⟩
  rw [q1] at i1
  have I1 := Lib.hid i1; clear i1
  cases q2 : decide (1 ≤ m ∧ m ≤ 1000)
  · rw [q2] at i2
    simp only [Bool.false_and, Bool.and_false, Bool.false_eq_true, ↓reduceIte]
    have I2 := Lib.hid i2; clear i2 i3 q1 q2 hq
    go_enter Try.func34, Try.ntmps34
    go_wp2_with fail
    refine (Hp.out _ H.out).mono ?_
    rintro e w1 ⟨rfl, hb⟩
    go_wp2_with fail
    refine (I1.out _).mono ?_
    rintro e w9 ⟨rfl, hw9⟩
    have hw9 := hw9.symm
    subst hw9
    go_wp2_with fail
    refine (I2.out _).mono ?_
    rintro e w9 ⟨rfl, hw9⟩
    have hw9 := hw9.symm
    subst hw9
    go_wp2_with fail
    go_ret2
    exact ⟨rfl, hb⟩
  rw [q2] at i2
  have I2 := Lib.hid i2; clear i2
  cases q3 : decide (0 ≤ t ∧ t ≤ m)
  · rw [q3] at i3
    simp only [Bool.and_false, Bool.false_eq_true, ↓reduceIte]
    have I3 := Lib.hid i3; clear i3 q1 q2 q3 hq
    go_enter Try.func34, Try.ntmps34
    go_wp2_with fail
    refine (Hp.out _ H.out).mono ?_
    rintro e w1 ⟨rfl, hb⟩
    go_wp2_with fail
    refine (I1.out _).mono ?_
    rintro e w9 ⟨rfl, hw9⟩
    have hw9 := hw9.symm
    subst hw9
    go_wp2_with fail
    refine (I2.out _).mono ?_
    rintro e w9 ⟨rfl, hw9⟩
    have hw9 := hw9.symm
    subst hw9
    go_wp2_with fail
    refine (I3.out _).mono ?_
    rintro e w9 ⟨rfl, hw9⟩
    have hw9 := hw9.symm
    subst hw9
    go_wp2_with fail
    go_ret2
    exact ⟨rfl, hb⟩
  rw [q3] at i3
  have I3 := Lib.hid i3; clear i3
  simp only [Bool.and_self, ↓reduceIte]
  have h4 := (of_pool hq).2.1
  have g1 := of_decide_eq_true q1
  have g2 := of_decide_eq_true q2
  have g3 := of_decide_eq_true q3
  obtain ⟨tt, rfl⟩ : ∃ j : Nat, t = j := ⟨t.toNat, by omega⟩
  obtain ⟨mm, rfl⟩ : ∃ j : Nat, m = j := ⟨m.toNat, by omega⟩
  obtain ⟨kk, rfl⟩ : ∃ j : Nat, k = j := ⟨k.toNat, by omega⟩
  have ht' : ∀ (b : Nat) w, Row w A n P → Calls Try.prog 78 #[.slice A n c, .int .i64 b, .int .i64 kk] w fun e w' => e = .returned (v2 (cx P n kk b : Nat) (cy P n kk b : Nat)) ∧ Below w.heap.size w w' := fun b w h => by
    have := l4Chance_any A n c kk P b w h h4 (by omega)
    rw [cut_cxy] at this
    exact this
  have Ht := Lib.hid ht'; clear ht' hq q1 q2 q3
  have hc := fun b => cxy_le P n kk b h4
  have hh0 : ∀ b, hit P n kk tt mm b = decide ((tt : Int) * (cy P n kk b : Nat) ≤ (cx P n kk b : Nat) * (mm : Int)) := fun b => rfl
  have Hh := Lib.hid hh0; clear hh0
  generalize hit P n kk tt mm = ok at *
  generalize cx P n kk = gx at *
  generalize cy P n kk = gy at *
  go_enter Try.func34, Try.ntmps34
  go_wp2_with fail
  refine (Hp.out _ H.out).mono ?_
  rintro e w1 ⟨rfl, hb⟩
  go_wp2_with fail
  refine (I1.out _).mono ?_
  rintro e w9 ⟨rfl, hw9⟩
  have hw9 := hw9.symm
  subst hw9
  go_wp2_with fail
  refine (I2.out _).mono ?_
  rintro e w9 ⟨rfl, hw9⟩
  have hw9 := hw9.symm
  subst hw9
  go_wp2_with fail
  refine (I3.out _).mono ?_
  rintro e w9 ⟨rfl, hw9⟩
  have hw9 := hw9.symm
  subst hw9
  go_wp2_with fail
  go_loopw [10] (fun bv wr => ∃ b : Nat, b ≤ 32 ∧ bv = .int .i64 ((b : Int) - 1) ∧ Below w.heap.size w wr ∧ Hid (bf ok 32 = bf ok b)) (fun bv _ => (intOf bv + 1).toNat)
  case atStart => exact ⟨32, by omega, rfl, hb, rfl⟩
  case round =>
    clear hb
    obtain ⟨b, hb31, rfl, hbl, hE⟩ := hrel
    rcases b with _ | b
    · go_wp2_with fail
      go_ret2
      exact ⟨by rw [hE.out] <;> rfl, hbl⟩
    have hki : (((b + 1 : Nat) : Int) - 1) = (b : Int) := by omega
    rw [hki]
    clear hki
    have Htb := Lib.hid (Ht.out b)
    have hcb := hc b
    have hok := Hh.out b
    have hp1 : 0 ≤ (gx b : Int) * (mm : Int) ∧ (gx b : Int) * (mm : Int) ≤ ((6480 : Nat) : Int) * 1000 := prod_le hcb.1 (by omega) (by omega) rfl
    have hp2 : 0 ≤ (tt : Int) * (gy b : Int) ∧ (tt : Int) * (gy b : Int) ≤ ((1296 : Nat) : Int) * 1000 := by rw [Int.mul_comm]; exact prod_le hcb.2 (by omega) (by omega) rfl
    generalize gx b = x at *
    generalize gy b = y at *
    have hl := fun w => l2Less_any x y tt mm w (by omega) (by omega)
    clear hc Hh
    by_cases hh : (tt : Int) * (y : Int) ≤ (x : Int) * (mm : Int)
    · have hd : decide ((tt : Int) * (y : Int) ≤ (x : Int) * (mm : Int)) = true := decide_eq_true hh
      have HE : Hid (bf ok 32 = ((b : Int), true)) := hE.out.trans (bf_yes (hok.trans hd))
      rw [decide_eq_false (by omega : ¬ (x : Int) * (mm : Int) < (tt : Int) * (y : Int))] at hl
      have Hl := Lib.hid hl; clear hl hE hok hp1 hp2 hh hd
      go_wp2_with fail
      refine (Htb.out _ (H.out.below (Nat.le_refl _) hbl)).mono ?_
      rintro e w1 ⟨rfl, hb⟩
      have hbl := nx hbl hb
      clear hb
      go_wp2_with fail
      refine (Hl.out _).mono ?_
      rintro e w2 ⟨rfl, hb⟩
      have hbl := nx hbl hb
      go_wp2_with fail
      go_ret2
      exact ⟨by rw [HE.out] <;> rfl, hbl⟩
    · have hd : decide ((tt : Int) * (y : Int) ≤ (x : Int) * (mm : Int)) = false := decide_eq_false hh
      have hokf := hok.trans hd
      rw [decide_eq_true (by omega : (x : Int) * (mm : Int) < (tt : Int) * (y : Int))] at hl
      have Hl := Lib.hid hl; clear hl hok hp1 hp2 hh hd
      have HE : Hid (bf ok 32 = bf ok b) := hE.out.trans (bf_no hokf)
      clear hE hokf
      go_wp2_with fail
      refine (Htb.out _ (H.out.below (Nat.le_refl _) hbl)).mono ?_
      rintro e w1 ⟨rfl, hb⟩
      have hbl := nx hbl hb
      clear hb
      go_wp2_with fail
      refine (Hl.out _).mono ?_
      rintro e w2 ⟨rfl, hb⟩
      have hbl := nx hbl hb
      go_wp2_with fail
      go_roundw
      case rel => exact ⟨b, by omega, by first | rfl | go_num, hbl, HE⟩
      case measure => simp [intOf] <;> omega



end BndS
end Go.Proofs.Ytbcaahaaaodhkaa
