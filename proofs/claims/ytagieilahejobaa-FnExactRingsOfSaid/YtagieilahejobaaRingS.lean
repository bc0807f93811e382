/-
  Whether a row is a ring, by the specification.
-/
import Derived.Test.YtagieilahejobaaRows
import Derived.Test.YtagieilahejobaaManyI
import Derived.Test.YtagieilahejobaaManyS
import Derived.Test.YtagieilahejobaaBeatI
import Derived.Test.YtagieilahejobaaIntsW
import Derived.Test.YtagieilahejobaaSafeI
import Derived.Test.YtagieilahejobaaSafeS
import Derived.Test.YtagieilahejobaaRowW
import Derived.Test.YtagieilahejobaaRowsL
import Derived.Test.YtagieilahejobaaQuietR
import Derived.Test.YtagieilahejobaaQuietD
import Derived.Test.YtagieilahejobaaBestI
import Derived.Test.YtagieilahejobaaBestS
import Derived.Test.YtagieilahejobaaShelfMax
import Derived.Test.YtagieilahejobaaTopW
import Derived.Test.YtagieilahejobaaManyW
import Derived.Test.YtagieilahejobaaDicesW
import Derived.Test.YtagieilahejobaaWaysW
import Derived.Test.YtagieilahejobaaKnow
import Derived.Test.YtagieilahejobaaCmpW
import Derived.Test.YtagieilahejobaaCompW
import Derived.Test.YtagieilahejobaaCompS
import Derived.Test.YtagieilahejobaaDuel
import Derived.Test.YtagieilahejobaaDieW
import Derived.Test.YtagieilahejobaaSortW
import Derived.Test.YtagieilahejobaaOpenD
import Derived.WalkKit
import Derived.WalkLawsBesides
import Derived.WalkSpells
import Derived.ProofKit
import Derived.OpenShut
import Derived.Deep.RegionWith
import Derived.Deep.QuietTactic
import Derived.BigQuiet
namespace Go.Proofs.Ytagieilahejobaa
open Go.ChangeShapes Go.WideShapes Go.ChangeAt Go.RowKit
open Go.ChangeMaps (open_string shut_string)

namespace RingS
open Dice Arr OpenD DieW SortW Duel CmpW Know WaysW CompS CompW ManyW QuietD QuietR TopW DicesW BestS BestI RowsL RowW SafeS SafeI BeatI IntsW ManyS ManyI

/-- Each of the first i dice of a row beats the next one. -/
def ringed (P : Nat → Nat → Int) (n i : Nat) : Prop := ∀ j, j < i → beats (P j) (P ((j + 1) % n)) = true
instance (P : Nat → Nat → Int) (n i : Nat) : Decidable (ringed P n i) := by unfold ringed; infer_instance
theorem beats_self (x : Nat → Int) : beats x x = false := by
  unfold beats
  have := (cw_turn x x).1
  exact decide_eq_false (by omega)
theorem beats_turn {x y : Nat → Int} (h : beats x y = true) : beats y x = false := by
  unfold beats at *
  have h1 := of_decide_eq_true h
  obtain ⟨e1, _, e3⟩ := cw_turn x y
  exact decide_eq_false (by omega)
/-- A ring has three dice at least. -/
theorem ring_three {P : Nat → Nat → Int} {n : Nat} (h1 : 1 ≤ n) (h : ringed P n n) : 3 ≤ n := by
  by_cases h3 : 3 ≤ n
  · exact h3
  · obtain rfl | rfl : n = 1 ∨ n = 2 := by omega
    · have := h 0 (by omega)
      rw [beats_self] at this
      cases this
    · have a := h 0 (by omega)
      have b := h 1 (by omega)
      have c := beats_turn a
      rw [show (0 + 1) % 2 = 1 by decide] at c
      rw [show (1 + 1) % 2 = 0 by decide] at b
      rw [c] at b
      cases b
theorem ring_no {P : Nat → Nat → Int} {n i : Nat} (hi : i < n) (h : beats (P i) (P ((i + 1) % n)) = false) : decide (ringed P n n) = false := decide_eq_false fun hr => by
  have := hr i hi
  rw [h] at this
  cases this
theorem ring_next {P : Nat → Nat → Int} {n i : Nat} (h : ringed P n i) (hb : beats (P i) (P ((i + 1) % n)) = true) : ringed P n (i + 1) := fun j hj => by
  by_cases hji : j = i
  · subst hji; exact hb
  · exact h j (by omega)
def outR (n : Nat) (P : Nat → Nat → Int) : Array Value := if many 6 n P then #[.bool (decide (ringed P n n)), .bool true] else #[.bool false, .bool false]

set_option maxRecDepth 100000 in
set_option maxHeartbeats 8000000 in
theorem specRing_any (A : Option Addr) (n c : Nat) (P : Nat → Nat → Int) (w : World) (h : Row w A n P) (hn : n ≤ maxLen) :
    Calls Try.prog 31 #[.slice A n c] w fun e w' => e = .returned (.tuple (outR n P)) ∧ Below w.heap.size w w' := by
  have hr := fun w h => l3Row_any A n c P w h hn
  have H := Lib.hid h; clear h
  unfold outR
  cases hq : many 6 n P
  · rw [hq] at hr
    simp only [Bool.false_eq_true, ↓reduceIte]
    have Hr := Lib.hid hr; clear hr hq
    go_enter Try.func31, Try.ntmps31
    go_wp2_with fail
    refine (Hr.out _ H.out).mono ?_
    rintro e w1 ⟨rfl, hb1⟩
    go_wp2_with fail
    go_ret2
    exact ⟨rfl, hb1⟩
  · obtain ⟨h1, h6, hp⟩ := of_many hq
    rw [hq] at hr
    simp only [↓reduceIte]
    have Hl0 := Lib.hid (fun x y w => l3Beats_any x y w)
    have Hr := Lib.hid hr; clear hr hq hp
    go_enter Try.func31, Try.ntmps31
    go_wp2_with fail
    refine (Hr.out _ H.out).mono ?_
    rintro e w1 ⟨rfl, hB1⟩
    obtain ⟨bk, o, rfl, hbk, hcw⟩ := row_cells H.out h1
    have Hcw := Lib.hid hcw; clear hcw
    clear Hr
    go_wp2_with fail
    go_loopw [4] (fun kv wr => ∃ i : Nat, i ≤ n ∧ kv = .int .i64 i ∧ Hid (ringed P n i) ∧ Below w.heap.size w wr) (fun kv _ => n - (intOf kv).toNat)
    case atStart => exact ⟨0, by omega, rfl, fun j hj => by omega, hB1⟩
    case round =>
      clear hB1
      obtain ⟨i, hi, rfl, hg, hB⟩ := hrel
      by_cases hlt : i < n
      · have hit : decide (i < n) = true := decide_eq_true hlt
        obtain ⟨t, ht0⟩ : ∃ t, t = (i + 1) % n := ⟨_, rfl⟩
        have ht : t < n := by rw [ht0]; exact Nat.mod_lt _ h1
        have hm1 : ((i : Int) + 1) % (n : Int) = (t : Int) := by rw [ht0]; rfl
        have hm2 : ((i : Int) + 1).tmod (n : Int) = (t : Int) := by rw [ht0]; rfl
        have hl := Hl0.out (P i) (P t)
        cases hbt : beats (P i) (P t)
        · have hno : Hid (decide (ringed P n n) = false) := ring_no hlt (ht0 ▸ hbt)
          rw [hbt] at hl
          have Hl := Lib.hid hl; clear hl hbt ht0
          go_wp2_with fail
          refine wp_region_quiet (C := fun w' => Below w.heap.size w w') (by kernel_rfl) (by kernel_rfl) hB.drew ?_
          clear hB
          refine BigFrame.wpQuiet_want rfl (fun K hK => BigFrame.quiet_move _ rfl (hK _ ?_)); clear hK K; go_simp
          refine BigFrame.wpQuiet_want rfl (fun K hK => BigFrame.quiet_move _ rfl (hK _ ?_)); clear hK K; go_simp
          refine BigFrame.wpQuiet_want rfl (fun K hK => ?_); go_big_quiet_op; refine ⟨_, by intros; rfl, hK _ ?_⟩; clear hK K; go_simp
          refine BigFrame.wpQuiet_want rfl (fun K hK => quiet_ldo _ rfl rfl (fun _ h => at_row (fun k hk => Hcw.out i hlt k hk) hbk h) (hK _ ?_)); clear hK K; go_simp
          refine BigFrame.wpQuiet_want rfl (fun K hK => BigFrame.quiet_move _ rfl (hK _ ?_)); clear hK K; go_simp
          refine BigFrame.wpQuiet_want rfl (fun K hK => BigFrame.quiet_move _ rfl (hK _ ?_)); clear hK K; go_simp
          refine BigFrame.wpQuiet_want rfl (fun K hK => ?_); go_big_quiet_op; refine ⟨_, by intros; rfl, hK _ ?_⟩; clear hK K; go_simp
          refine BigFrame.wpQuiet_want rfl (fun K hK => BigFrame.quiet_move _ rfl (hK _ ?_)); clear hK K; go_simp
          refine BigFrame.wpQuiet_want rfl (fun K hK => ?_); go_big_quiet_op; refine ⟨_, by intros; rfl, hK _ ?_⟩; clear hK K; go_simp
          refine BigFrame.wpQuiet_want rfl (fun K hK => ?_); go_big_quiet_op; refine ⟨_, by intros; rfl, hK _ ?_⟩; clear hK K; go_simp
          refine BigFrame.wpQuiet_want rfl (fun K hK => ?_); go_big_quiet_op; refine ⟨_, by intros; rfl, hK _ ?_⟩; clear hK K; go_simp
          refine BigFrame.wpQuiet_want rfl (fun K hK => quiet_ldo _ rfl rfl (fun _ h => at_row (fun k hk => Hcw.out t ht k hk) hbk h) (hK _ ?_)); clear hK K; go_simp
          refine BigFrame.wpQuiet_want rfl (fun K hK => ⟨.bool false, fun w' hw' => ?_, hK _ ?_⟩)
          · clear hK K
            have Hw := Lib.hid hw'; clear hw'
            go_simp
            refine (Hl.out _).mono ?_
            rintro e w5 ⟨rfl, hb⟩
            exact ⟨rfl, nx Hw.out hb⟩
          clear hK K; go_simp
          refine BigFrame.wpQuiet_want rfl (fun K hK => ?_); go_big_quiet_op; refine ⟨_, by intros; rfl, hK _ ?_⟩; clear hK K; go_simp
          refine wpQuiet_nil ?_
          intro w3 hB
          go_wp2_with fail
          go_ret2
          exact ⟨by rw [hno.out]; rfl, hB⟩
        · have hyes : Hid (ringed P n (i + 1)) := ring_next hg.out (ht0 ▸ hbt)
          rw [hbt] at hl
          have Hl := Lib.hid hl; clear hl hbt ht0
          go_wp2_with fail
          refine wp_region_quiet (C := fun w' => Below w.heap.size w w') (by kernel_rfl) (by kernel_rfl) hB.drew ?_
          clear hB
          refine BigFrame.wpQuiet_want rfl (fun K hK => BigFrame.quiet_move _ rfl (hK _ ?_)); clear hK K; go_simp
          refine BigFrame.wpQuiet_want rfl (fun K hK => BigFrame.quiet_move _ rfl (hK _ ?_)); clear hK K; go_simp
          refine BigFrame.wpQuiet_want rfl (fun K hK => ?_); go_big_quiet_op; refine ⟨_, by intros; rfl, hK _ ?_⟩; clear hK K; go_simp
          refine BigFrame.wpQuiet_want rfl (fun K hK => quiet_ldo _ rfl rfl (fun _ h => at_row (fun k hk => Hcw.out i hlt k hk) hbk h) (hK _ ?_)); clear hK K; go_simp
          refine BigFrame.wpQuiet_want rfl (fun K hK => BigFrame.quiet_move _ rfl (hK _ ?_)); clear hK K; go_simp
          refine BigFrame.wpQuiet_want rfl (fun K hK => BigFrame.quiet_move _ rfl (hK _ ?_)); clear hK K; go_simp
          refine BigFrame.wpQuiet_want rfl (fun K hK => ?_); go_big_quiet_op; refine ⟨_, by intros; rfl, hK _ ?_⟩; clear hK K; go_simp
          refine BigFrame.wpQuiet_want rfl (fun K hK => BigFrame.quiet_move _ rfl (hK _ ?_)); clear hK K; go_simp
          refine BigFrame.wpQuiet_want rfl (fun K hK => ?_); go_big_quiet_op; refine ⟨_, by intros; rfl, hK _ ?_⟩; clear hK K; go_simp
          refine BigFrame.wpQuiet_want rfl (fun K hK => ?_); go_big_quiet_op; refine ⟨_, by intros; rfl, hK _ ?_⟩; clear hK K; go_simp
          refine BigFrame.wpQuiet_want rfl (fun K hK => ?_); go_big_quiet_op; refine ⟨_, by intros; rfl, hK _ ?_⟩; clear hK K; go_simp
          refine BigFrame.wpQuiet_want rfl (fun K hK => quiet_ldo _ rfl rfl (fun _ h => at_row (fun k hk => Hcw.out t ht k hk) hbk h) (hK _ ?_)); clear hK K; go_simp
          refine BigFrame.wpQuiet_want rfl (fun K hK => ⟨.bool true, fun w' hw' => ?_, hK _ ?_⟩)
          · clear hK K
            have Hw := Lib.hid hw'; clear hw'
            go_simp
            refine (Hl.out _).mono ?_
            rintro e w5 ⟨rfl, hb⟩
            exact ⟨rfl, nx Hw.out hb⟩
          clear hK K; go_simp
          refine BigFrame.wpQuiet_want rfl (fun K hK => ?_); go_big_quiet_op; refine ⟨_, by intros; rfl, hK _ ?_⟩; clear hK K; go_simp
          refine wpQuiet_nil ?_
          intro w3 hB
          go_wp2_with fail
          go_roundw
          case rel => exact ⟨i + 1, by omega, by go_num, hyes, hB⟩
          case measure => simp [intOf]; omega
      · obtain rfl : i = n := by omega
        have h3 := ring_three h1 hg.out
        have hyes : Hid (decide (ringed P i i) = true) := decide_eq_true hg.out
        have h3d : decide ((3 : Int) ≤ (i : Int)) = true := decide_eq_true (by omega)
        go_wp2_with fail
        go_ret2
        exact ⟨by rw [hyes.out]; rfl, hB⟩


end RingS
end Go.Proofs.Ytagieilahejobaa
