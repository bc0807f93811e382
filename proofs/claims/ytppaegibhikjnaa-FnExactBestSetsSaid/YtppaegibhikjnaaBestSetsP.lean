/-
  FnExactBestSets: for every list of arrays of six numbers, every goal and every two numbers the law returns true, and all read afterwards as they read before. No condition.
-/
import Derived.Test.YtppaegibhikjnaaRows
import Derived.Test.YtppaegibhikjnaaArr
import Derived.Test.YtppaegibhikjnaaAnyR
import Derived.Test.YtppaegibhikjnaaDieW
import Derived.Test.YtppaegibhikjnaaFracW
import Derived.Test.YtppaegibhikjnaaSortW
import Derived.Test.YtppaegibhikjnaaDicesW
import Derived.Test.YtppaegibhikjnaaPoolW
import Derived.Test.YtppaegibhikjnaaAll6
import Derived.Test.YtppaegibhikjnaaIntsW
import Derived.Test.YtppaegibhikjnaaRollN
import Derived.Test.YtppaegibhikjnaaGoalW
import Derived.Test.YtppaegibhikjnaaOpenG
import Derived.Test.YtppaegibhikjnaaPairA
import Derived.Test.YtppaegibhikjnaaCutW
import Derived.Test.YtppaegibhikjnaaValM
import Derived.Test.YtppaegibhikjnaaBestT
import Derived.Test.YtppaegibhikjnaaBestI6
import Derived.Test.YtppaegibhikjnaaMarkG
import Derived.Test.YtppaegibhikjnaaOpenD
import Derived.WalkKit
import Derived.WalkLawsBesides
import Derived.WalkSpells
import Derived.ProofKit
import Derived.OpenShut
import Derived.Deep.RegionWith
import Derived.Deep.QuietTactic
import Derived.BigQuiet
namespace Go.Proofs.Ytppaegibhikjnaa
open Go.ChangeShapes Go.WideShapes Go.ChangeAt Go.RowKit
open Go.ChangeMaps (open_string shut_string)

namespace BestSetsP
open Dice Arr FracW OpenD OpenG GoalW AnyR PairA DicesW PoolW CutW ValM BestM BestT BestI6 DieW SortW IntsW MarkG

set_option maxRecDepth 20000 in
set_option maxHeartbeats 8000000 in
theorem law_any (A : Option Addr) (n c : Nat) (P : Nat → Nat → Int) (k b : Int) (N : Int) (r : Int) (w : World) (h0 : Row w A n P) (hc0 : n ≤ c) (hm0 : c ≤ maxLen) :
    Calls Try.prog 7 #[.slice A n c, v2 k b, .int .i64 N, .int .i64 r] w fun e w' => e = .returned (.bool true) ∧ Below w.heap.size w w' := by
  have hn : n ≤ maxLen := Nat.le_trans hc0 hm0
  have hsz := fun w => sz_any A n c w hn
  by_cases hbig : n ≤ 1048576
  · rw [if_pos hbig] at hsz
    have Hsz := Lib.hid hsz; clear hsz
    have Ht0 := Lib.hid (fun w h => toS_any A n c P w h hbig)
    have HqS0 := Lib.hid (fun A B c c' w h h' => eqS_any A B n c c' P w h h' hn)
    have H0 := Lib.hid h0; clear h0
    have Htg := Lib.hid toGoal_any
    have hs := fun A c w h => specBestSets_any A n c P k b N r w h hn
    have hi := fun A c w h => implBestSets_any A n c P k b N r w h hn
    have hm8 := bl_small n P k b N r
    generalize nf (bl n P k b N r) = f at hs hi
    generalize (bl n P k b N r).length = m at hs hi hm8
    generalize okVal n P k b N r 1 = z at hs hi
    have Hs := Lib.hid hs; clear hs
    have Hi := Lib.hid hi; clear hi
    have hmd : ∀ (g c : Nat) (f : Nat → Int) (w : World), At w g (n * 6) f → Calls Try.prog 32 #[.slice (some ⟨g, 0, none⟩) n c, .int .i64 1] w fun e w' => e = .returned (.int .i64 (1 + 6 * (n : Int))) ∧ (∃ f, At w' g (n * 6) f) ∧ w.grownBy w' (some g) := fun g c f w h => markDice_grown g n c 1 f w h hbig (by omega)
    have hmi : ∀ (B : Nat) (A : Option Addr) (c : Nat) (w : World), Ints B w A m f → Calls Try.prog 33 #[.slice A m c, .int .i64 1] w fun e w' => e = .returned (.int .i64 (1 + (m : Int))) ∧ Ints B w' A m (fun i => (1 : Int) + i) ∧ Below B w w' := fun B A c w h => markInts_any B A m c 1 f w h (by omega) (by omega)
    have hhi : ∀ (B : Nat) (A : Option Addr) (c : Nat) (w : World), Ints B w A m (fun i => (1 : Int) + i) → Calls Try.prog 34 #[.slice A m c, .int .i64 1] w fun e w' => e = .returned (.int .i64 (1 + (m : Int))) ∧ Below w.heap.size w w' := fun B A c w h => heldInts_any B A m c 1 w h (by omega) (by omega)
    have He := Lib.hid (fun B B' A A' c c' w h h' => eqInts_any B B' A A' m c c' f w h h' (by unfold maxLen; omega))
    have Hmd0 := Lib.hid hmd; clear hmd
    have Hmi := Lib.hid hmi; clear hmi
    have Hhi := Lib.hid hhi; clear hhi
    have hz1 : decide ((1 : Int) + 6 * (n : Int) < 0) = false := decide_eq_false (by omega)
    have hz2 : decide ((1 : Int) + (m : Int) < 0) = false := decide_eq_false (by omega)
    clear hm8
    have hB := n0 w
    clear hc0 hm0 hn
    go_enter Try.func7, Try.ntmps7
    have hX1 := (At.newGb w k b 23 (p := w.heap.size) rfl)
    have hB := na hB (.cells #[.int .i64 k, .int .i64 b] 23)
    go_wp2_with fail
    refine (Hsz.out _).mono ?_
    rintro e w2 ⟨rfl, hw0⟩
    have hw0 := hw0.symm
    subst hw0
    go_wp2_with fail
    obtain ⟨W3, hW⟩ : ∃ W, W = (w.alloc (.cells #[.int .i64 k, .int .i64 b] 23)) := ⟨_, rfl⟩
    rw [← hW] at hX1 hB ⊢
    clear hW
    refine wp_region_inc (I := fun L az w' => ∃ (AX : Option Addr) (cX : Nat), ∃ u10 u11 u25 u26 u27 u28 u29 u30 u31 u32 u33 u34 : Value, az = ⟨#[.slice A n c, .agg #[.int .i64 k, .int .i64 b], .int .i64 N, .int .i64 r, undef, .pointer (some ⟨w.heap.size, 0, none⟩), undef, undef, .bool false, .int .i64 (1048576 - (n : Int)), u10, u11, undef, undef, undef, undef, undef, undef, undef, undef, .slice A n c, .int .i64 1048576, .int .i64 (1048576 - (n : Int)), .int .i64 (1048576 - (n : Int)), .bool (decide (1048576 - (n : Int) < 0)), u25, u26, u27, u28, u29, u30, u31, u32, u33, u34, undef, undef, undef, undef, undef, undef, undef, undef, undef, undef, undef, undef, undef, undef, undef, undef, undef, undef, undef, undef, undef, undef, undef, undef, undef, undef, undef, undef, undef, undef, undef, undef, undef, undef, undef, undef, undef, undef, undef, undef, undef, undef, undef, undef, undef, undef, undef, undef, undef, undef, undef, undef, undef, undef, undef, undef, undef, undef, undef, undef, undef, undef, undef, undef, undef, undef, undef, undef, undef, undef, undef, undef, undef, undef, undef, undef, undef, undef, undef], []⟩ ∧ (L 0 = true → u26 = (.slice A n c)) ∧ (L 2 = true → u28 = (.agg #[.int .i64 k, .int .i64 b])) ∧ (L 3 = true → u29 = (.agg #[.int .i64 k, .int .i64 b])) ∧ (L 4 = true → u30 = (.int .i64 N)) ∧ (L 5 = true → u31 = (.int .i64 r)) ∧ (L 6 = true → u32 = (.tuple #[.slice AX m cX, .bool z])) ∧ (L 7 = true → u25 = (.tuple #[.slice AX m cX, .bool z])) ∧ (L 8 = true → u33 = (.slice AX m cX)) ∧ (L 9 = true → u34 = (.bool z)) ∧ (L 10 = true → u10 = (.slice AX m cX)) ∧ (L 11 = true → u11 = (.bool z)) ∧ Below W3.heap.size W3 w' ∧ (L 1 = true → ∃ q, u27 = .slice (some ⟨q, 0, none⟩) n n ∧ At w' q (n * 6) (flat P)) ∧ (L 6 = true → Ints W3.heap.size w' AX m f)) (by kernel_rfl) (by kernel_rfl) ?_ ?_ ?_
    · exact ⟨none, 0, _, _, _, _, _, _, _, _, _, _, _, _, rfl, (fun h => by cases h), (fun h => by cases h), (fun h => by cases h), (fun h => by cases h), (fun h => by cases h), (fun h => by cases h), (fun h => by cases h), (fun h => by cases h), (fun h => by cases h), (fun h => by cases h), (fun h => by cases h), ((Below.refl _ W3).drew), (fun h => by cases h), (fun h => by cases h)⟩
    · intro L az wz i hi hL hdep hcl hI
      obtain ⟨AX, cX, u10, u11, u25, u26, u27, u28, u29, u30, u31, u32, u33, u34, rfl, e0, e2, e3, e4, e5, e6, e7, e8, e9, e10, e11, hB0, hR1, hQ⟩ := hI
      have hi' : i < 12 := hi
      clear hi
      obtain rfl | rfl | rfl | rfl | rfl | rfl | rfl | rfl | rfl | rfl | rfl | rfl : i = 0 ∨ i = 1 ∨ i = 2 ∨ i = 3 ∨ i = 4 ∨ i = 5 ∨ i = 6 ∨ i = 7 ∨ i = 8 ∨ i = 9 ∨ i = 10 ∨ i = 11 := by omega
      · refine wpOp_want rfl rfl (Oper.wp_of_quiet (C := fun w' => w' = wz) (K := fun a' => a' = ⟨#[.slice A n c, .agg #[.int .i64 k, .int .i64 b], .int .i64 N, .int .i64 r, undef, .pointer (some ⟨w.heap.size, 0, none⟩), undef, undef, .bool false, .int .i64 (1048576 - (n : Int)), u10, u11, undef, undef, undef, undef, undef, undef, undef, undef, .slice A n c, .int .i64 1048576, .int .i64 (1048576 - (n : Int)), .int .i64 (1048576 - (n : Int)), .bool (decide (1048576 - (n : Int) < 0)), u25, (.slice A n c), u27, u28, u29, u30, u31, u32, u33, u34, undef, undef, undef, undef, undef, undef, undef, undef, undef, undef, undef, undef, undef, undef, undef, undef, undef, undef, undef, undef, undef, undef, undef, undef, undef, undef, undef, undef, undef, undef, undef, undef, undef, undef, undef, undef, undef, undef, undef, undef, undef, undef, undef, undef, undef, undef, undef, undef, undef, undef, undef, undef, undef, undef, undef, undef, undef, undef, undef, undef, undef, undef, undef, undef, undef, undef, undef, undef, undef, undef, undef, undef, undef, undef, undef, undef, undef, undef, undef], []⟩) rfl ?_ ?_)
        · intro a' w' hC' hK
          subst hK
          subst hC'
          exact ⟨AX, cX, u10, u11, u25, (.slice A n c), u27, u28, u29, u30, u31, u32, u33, u34, by first | rfl | (simp; done) | (simp; exact ⟨rfl, rfl⟩), fun _ => rfl, e2, e3, e4, e5, e6, e7, e8, e9, e10, e11, hB0, hR1, hQ⟩
        · exact BigFrame.quiet_move _ rfl rfl
      · obtain rfl := e0 (hdep 0 (by kernel_rfl))
        have HB := Lib.hid hB0; clear hB0
        refine wpOp_want rfl rfl ?_
        go_simp
        refine (Ht0.out _ (H0.out.up (hB.trans (HB.out.mono hB.size)))).mono ?_
        rintro e w9 ⟨gr, rfl, _, hAr, hb⟩
        go_simp
        exact ⟨AX, cX, u10, u11, u25, (.slice A n c), (.slice (some ⟨gr, 0, none⟩) n n), u28, u29, u30, u31, u32, u33, u34, by first | rfl | (simp; done) | (simp; exact ⟨rfl, rfl⟩), fun _ => rfl, e2, e3, e4, e5, e6, e7, e8, e9, e10, e11, HB.out.trans (hb.mono HB.out.size), (fun _ => ⟨gr, rfl, hAr⟩), (fun h1 => (hQ h1).up hb)⟩
      · have hXX := hX1.up hB0
        have c0 := hXX.cell 0 (by omega)
        have c1 := hXX.cell 1 (by omega)
        have HB := Lib.hid hB0; clear hB0
        refine wpOp_want rfl rfl ?_
        go_simp
        exact ⟨AX, cX, u10, u11, u25, u26, u27, (.agg #[.int .i64 k, .int .i64 b]), u29, u30, u31, u32, u33, u34, by first | rfl | (simp; done) | (simp; exact ⟨rfl, rfl⟩), e0, fun _ => rfl, e3, e4, e5, e6, e7, e8, e9, e10, e11, HB.out, hR1, hQ⟩
      · obtain rfl := e2 (hdep 2 (by kernel_rfl))
        have HB := Lib.hid hB0; clear hB0
        refine wpOp_want rfl rfl ?_
        go_simp
        refine (Htg.out k b _).mono ?_
        rintro e w9 ⟨rfl, hb⟩
        go_simp
        exact ⟨AX, cX, u10, u11, u25, u26, u27, (.agg #[.int .i64 k, .int .i64 b]), (.agg #[.int .i64 k, .int .i64 b]), u30, u31, u32, u33, u34, by first | rfl | (simp; done) | (simp; exact ⟨rfl, rfl⟩), e0, fun _ => rfl, fun _ => rfl, e4, e5, e6, e7, e8, e9, e10, e11, HB.out.trans (hb.mono HB.out.size), (fun h1 => by obtain ⟨q, e, hA⟩ := hR1 h1 ; exact ⟨q, e, hA.up hb⟩), (fun h1 => (hQ h1).up hb)⟩
      · refine wpOp_want rfl rfl (Oper.wp_of_quiet (C := fun w' => w' = wz) (K := fun a' => a' = ⟨#[.slice A n c, .agg #[.int .i64 k, .int .i64 b], .int .i64 N, .int .i64 r, undef, .pointer (some ⟨w.heap.size, 0, none⟩), undef, undef, .bool false, .int .i64 (1048576 - (n : Int)), u10, u11, undef, undef, undef, undef, undef, undef, undef, undef, .slice A n c, .int .i64 1048576, .int .i64 (1048576 - (n : Int)), .int .i64 (1048576 - (n : Int)), .bool (decide (1048576 - (n : Int) < 0)), u25, u26, u27, u28, u29, (.int .i64 N), u31, u32, u33, u34, undef, undef, undef, undef, undef, undef, undef, undef, undef, undef, undef, undef, undef, undef, undef, undef, undef, undef, undef, undef, undef, undef, undef, undef, undef, undef, undef, undef, undef, undef, undef, undef, undef, undef, undef, undef, undef, undef, undef, undef, undef, undef, undef, undef, undef, undef, undef, undef, undef, undef, undef, undef, undef, undef, undef, undef, undef, undef, undef, undef, undef, undef, undef, undef, undef, undef, undef, undef, undef, undef, undef, undef, undef, undef, undef, undef, undef, undef, undef], []⟩) rfl ?_ ?_)
        · intro a' w' hC' hK
          subst hK
          subst hC'
          exact ⟨AX, cX, u10, u11, u25, u26, u27, u28, u29, (.int .i64 N), u31, u32, u33, u34, by first | rfl | (simp; done) | (simp; exact ⟨rfl, rfl⟩), e0, e2, e3, fun _ => rfl, e5, e6, e7, e8, e9, e10, e11, hB0, hR1, hQ⟩
        · exact BigFrame.quiet_move _ rfl rfl
      · refine wpOp_want rfl rfl (Oper.wp_of_quiet (C := fun w' => w' = wz) (K := fun a' => a' = ⟨#[.slice A n c, .agg #[.int .i64 k, .int .i64 b], .int .i64 N, .int .i64 r, undef, .pointer (some ⟨w.heap.size, 0, none⟩), undef, undef, .bool false, .int .i64 (1048576 - (n : Int)), u10, u11, undef, undef, undef, undef, undef, undef, undef, undef, .slice A n c, .int .i64 1048576, .int .i64 (1048576 - (n : Int)), .int .i64 (1048576 - (n : Int)), .bool (decide (1048576 - (n : Int) < 0)), u25, u26, u27, u28, u29, u30, (.int .i64 r), u32, u33, u34, undef, undef, undef, undef, undef, undef, undef, undef, undef, undef, undef, undef, undef, undef, undef, undef, undef, undef, undef, undef, undef, undef, undef, undef, undef, undef, undef, undef, undef, undef, undef, undef, undef, undef, undef, undef, undef, undef, undef, undef, undef, undef, undef, undef, undef, undef, undef, undef, undef, undef, undef, undef, undef, undef, undef, undef, undef, undef, undef, undef, undef, undef, undef, undef, undef, undef, undef, undef, undef, undef, undef, undef, undef, undef, undef, undef, undef, undef, undef], []⟩) rfl ?_ ?_)
        · intro a' w' hC' hK
          subst hK
          subst hC'
          exact ⟨AX, cX, u10, u11, u25, u26, u27, u28, u29, u30, (.int .i64 r), u32, u33, u34, by first | rfl | (simp; done) | (simp; exact ⟨rfl, rfl⟩), e0, e2, e3, e4, fun _ => rfl, e6, e7, e8, e9, e10, e11, hB0, hR1, hQ⟩
        · exact BigFrame.quiet_move _ rfl rfl
      · obtain rfl := e3 (hdep 3 (by kernel_rfl))
        obtain rfl := e4 (hdep 4 (by kernel_rfl))
        obtain rfl := e5 (hdep 5 (by kernel_rfl))
        obtain ⟨g1, rfl, hAr1⟩ := hR1 (hdep 1 (by kernel_rfl))
        have HB := Lib.hid hB0; clear hB0
        refine wpOp_want rfl rfl ?_
        go_simp
        refine (Hs.out _ _ _ (row_of_at hAr1)).mono ?_
        rintro e w9 ⟨AY, cY, rfl, hY, hb⟩
        go_simp
        exact ⟨AY, cY, u10, u11, u25, u26, (.slice (some ⟨g1, 0, none⟩) n n), u28, (.agg #[.int .i64 k, .int .i64 b]), (.int .i64 N), (.int .i64 r), (.tuple #[.slice AY m cY, .bool z]), u33, u34, by first | rfl | (simp; done) | (simp; exact ⟨rfl, rfl⟩), e0, e2, fun _ => rfl, fun _ => rfl, fun _ => rfl, fun _ => rfl, fun h => absurd (hcl 7 6 h (by kernel_rfl)) (by rw [hL]; decide), fun h => absurd (hcl 7 6 (hcl 8 7 h (by kernel_rfl)) (by kernel_rfl)) (by rw [hL]; decide), e9, fun h => absurd (hcl 7 6 (hcl 8 7 (hcl 10 8 h (by kernel_rfl)) (by kernel_rfl)) (by kernel_rfl)) (by rw [hL]; decide), e11, HB.out.trans (hb.mono HB.out.size), (fun h1 => by obtain ⟨q, e, hA⟩ := hR1 h1 ; exact ⟨q, e, hA.up hb⟩), (fun _ => hY.mono HB.out.size)⟩
      · obtain rfl := e6 (hdep 6 (by kernel_rfl))
        refine wpOp_want rfl rfl (Oper.wp_of_quiet (C := fun w' => w' = wz) (K := fun a' => a' = ⟨#[.slice A n c, .agg #[.int .i64 k, .int .i64 b], .int .i64 N, .int .i64 r, undef, .pointer (some ⟨w.heap.size, 0, none⟩), undef, undef, .bool false, .int .i64 (1048576 - (n : Int)), u10, u11, undef, undef, undef, undef, undef, undef, undef, undef, .slice A n c, .int .i64 1048576, .int .i64 (1048576 - (n : Int)), .int .i64 (1048576 - (n : Int)), .bool (decide (1048576 - (n : Int) < 0)), (.tuple #[.slice AX m cX, .bool z]), u26, u27, u28, u29, u30, u31, (.tuple #[.slice AX m cX, .bool z]), u33, u34, undef, undef, undef, undef, undef, undef, undef, undef, undef, undef, undef, undef, undef, undef, undef, undef, undef, undef, undef, undef, undef, undef, undef, undef, undef, undef, undef, undef, undef, undef, undef, undef, undef, undef, undef, undef, undef, undef, undef, undef, undef, undef, undef, undef, undef, undef, undef, undef, undef, undef, undef, undef, undef, undef, undef, undef, undef, undef, undef, undef, undef, undef, undef, undef, undef, undef, undef, undef, undef, undef, undef, undef, undef, undef, undef, undef, undef, undef, undef], []⟩) rfl ?_ ?_)
        · intro a' w' hC' hK
          subst hK
          subst hC'
          exact ⟨AX, cX, u10, u11, (.tuple #[.slice AX m cX, .bool z]), u26, u27, u28, u29, u30, u31, (.tuple #[.slice AX m cX, .bool z]), u33, u34, by first | rfl | (simp; done) | (simp; exact ⟨rfl, rfl⟩), e0, e2, e3, e4, e5, fun _ => rfl, fun _ => rfl, e8, e9, e10, e11, hB0, hR1, hQ⟩
        · exact BigFrame.quiet_move _ rfl rfl
      · obtain rfl := e7 (hdep 7 (by kernel_rfl))
        refine wpOp_want rfl rfl (Oper.wp_of_quiet (C := fun w' => w' = wz) (K := fun a' => a' = ⟨#[.slice A n c, .agg #[.int .i64 k, .int .i64 b], .int .i64 N, .int .i64 r, undef, .pointer (some ⟨w.heap.size, 0, none⟩), undef, undef, .bool false, .int .i64 (1048576 - (n : Int)), u10, u11, undef, undef, undef, undef, undef, undef, undef, undef, .slice A n c, .int .i64 1048576, .int .i64 (1048576 - (n : Int)), .int .i64 (1048576 - (n : Int)), .bool (decide (1048576 - (n : Int) < 0)), (.tuple #[.slice AX m cX, .bool z]), u26, u27, u28, u29, u30, u31, u32, (.slice AX m cX), u34, undef, undef, undef, undef, undef, undef, undef, undef, undef, undef, undef, undef, undef, undef, undef, undef, undef, undef, undef, undef, undef, undef, undef, undef, undef, undef, undef, undef, undef, undef, undef, undef, undef, undef, undef, undef, undef, undef, undef, undef, undef, undef, undef, undef, undef, undef, undef, undef, undef, undef, undef, undef, undef, undef, undef, undef, undef, undef, undef, undef, undef, undef, undef, undef, undef, undef, undef, undef, undef, undef, undef, undef, undef, undef, undef, undef, undef, undef, undef], []⟩) rfl ?_ ?_)
        · intro a' w' hC' hK
          subst hK
          subst hC'
          exact ⟨AX, cX, u10, u11, (.tuple #[.slice AX m cX, .bool z]), u26, u27, u28, u29, u30, u31, u32, (.slice AX m cX), u34, by first | rfl | (simp; done) | (simp; exact ⟨rfl, rfl⟩), e0, e2, e3, e4, e5, e6, fun _ => rfl, fun _ => rfl, e9, e10, e11, hB0, hR1, hQ⟩
        · exact ⟨(.slice AX m cX), fun w' hw' => ⟨rfl, rfl⟩, rfl⟩
      · obtain rfl := e7 (hdep 7 (by kernel_rfl))
        refine wpOp_want rfl rfl (Oper.wp_of_quiet (C := fun w' => w' = wz) (K := fun a' => a' = ⟨#[.slice A n c, .agg #[.int .i64 k, .int .i64 b], .int .i64 N, .int .i64 r, undef, .pointer (some ⟨w.heap.size, 0, none⟩), undef, undef, .bool false, .int .i64 (1048576 - (n : Int)), u10, u11, undef, undef, undef, undef, undef, undef, undef, undef, .slice A n c, .int .i64 1048576, .int .i64 (1048576 - (n : Int)), .int .i64 (1048576 - (n : Int)), .bool (decide (1048576 - (n : Int) < 0)), (.tuple #[.slice AX m cX, .bool z]), u26, u27, u28, u29, u30, u31, u32, u33, (.bool z), undef, undef, undef, undef, undef, undef, undef, undef, undef, undef, undef, undef, undef, undef, undef, undef, undef, undef, undef, undef, undef, undef, undef, undef, undef, undef, undef, undef, undef, undef, undef, undef, undef, undef, undef, undef, undef, undef, undef, undef, undef, undef, undef, undef, undef, undef, undef, undef, undef, undef, undef, undef, undef, undef, undef, undef, undef, undef, undef, undef, undef, undef, undef, undef, undef, undef, undef, undef, undef, undef, undef, undef, undef, undef, undef, undef, undef, undef, undef], []⟩) rfl ?_ ?_)
        · intro a' w' hC' hK
          subst hK
          subst hC'
          exact ⟨AX, cX, u10, u11, (.tuple #[.slice AX m cX, .bool z]), u26, u27, u28, u29, u30, u31, u32, u33, (.bool z), by first | rfl | (simp; done) | (simp; exact ⟨rfl, rfl⟩), e0, e2, e3, e4, e5, e6, fun _ => rfl, e8, fun _ => rfl, e10, e11, hB0, hR1, hQ⟩
        · exact ⟨(.bool z), fun w' hw' => ⟨rfl, rfl⟩, rfl⟩
      · obtain rfl := e8 (hdep 8 (by kernel_rfl))
        refine wpOp_want rfl rfl (Oper.wp_of_quiet (C := fun w' => w' = wz) (K := fun a' => a' = ⟨#[.slice A n c, .agg #[.int .i64 k, .int .i64 b], .int .i64 N, .int .i64 r, undef, .pointer (some ⟨w.heap.size, 0, none⟩), undef, undef, .bool false, .int .i64 (1048576 - (n : Int)), (.slice AX m cX), u11, undef, undef, undef, undef, undef, undef, undef, undef, .slice A n c, .int .i64 1048576, .int .i64 (1048576 - (n : Int)), .int .i64 (1048576 - (n : Int)), .bool (decide (1048576 - (n : Int) < 0)), u25, u26, u27, u28, u29, u30, u31, u32, (.slice AX m cX), u34, undef, undef, undef, undef, undef, undef, undef, undef, undef, undef, undef, undef, undef, undef, undef, undef, undef, undef, undef, undef, undef, undef, undef, undef, undef, undef, undef, undef, undef, undef, undef, undef, undef, undef, undef, undef, undef, undef, undef, undef, undef, undef, undef, undef, undef, undef, undef, undef, undef, undef, undef, undef, undef, undef, undef, undef, undef, undef, undef, undef, undef, undef, undef, undef, undef, undef, undef, undef, undef, undef, undef, undef, undef, undef, undef, undef, undef, undef, undef], []⟩) rfl ?_ ?_)
        · intro a' w' hC' hK
          subst hK
          subst hC'
          exact ⟨AX, cX, (.slice AX m cX), u11, u25, u26, u27, u28, u29, u30, u31, u32, (.slice AX m cX), u34, by first | rfl | (simp; done) | (simp; exact ⟨rfl, rfl⟩), e0, e2, e3, e4, e5, e6, e7, fun _ => rfl, e9, fun _ => rfl, e11, hB0, hR1, hQ⟩
        · exact BigFrame.quiet_assign _ rfl rfl
      · obtain rfl := e9 (hdep 9 (by kernel_rfl))
        refine wpOp_want rfl rfl (Oper.wp_of_quiet (C := fun w' => w' = wz) (K := fun a' => a' = ⟨#[.slice A n c, .agg #[.int .i64 k, .int .i64 b], .int .i64 N, .int .i64 r, undef, .pointer (some ⟨w.heap.size, 0, none⟩), undef, undef, .bool false, .int .i64 (1048576 - (n : Int)), u10, (.bool z), undef, undef, undef, undef, undef, undef, undef, undef, .slice A n c, .int .i64 1048576, .int .i64 (1048576 - (n : Int)), .int .i64 (1048576 - (n : Int)), .bool (decide (1048576 - (n : Int) < 0)), u25, u26, u27, u28, u29, u30, u31, u32, u33, (.bool z), undef, undef, undef, undef, undef, undef, undef, undef, undef, undef, undef, undef, undef, undef, undef, undef, undef, undef, undef, undef, undef, undef, undef, undef, undef, undef, undef, undef, undef, undef, undef, undef, undef, undef, undef, undef, undef, undef, undef, undef, undef, undef, undef, undef, undef, undef, undef, undef, undef, undef, undef, undef, undef, undef, undef, undef, undef, undef, undef, undef, undef, undef, undef, undef, undef, undef, undef, undef, undef, undef, undef, undef, undef, undef, undef, undef, undef, undef, undef], []⟩) rfl ?_ ?_)
        · intro a' w' hC' hK
          subst hK
          subst hC'
          exact ⟨AX, cX, u10, (.bool z), u25, u26, u27, u28, u29, u30, u31, u32, u33, (.bool z), by first | rfl | (simp; done) | (simp; exact ⟨rfl, rfl⟩), e0, e2, e3, e4, e5, e6, e7, e8, fun _ => rfl, e10, fun _ => rfl, hB0, hR1, hQ⟩
        · exact BigFrame.quiet_assign _ rfl rfl
    intro L az wz hL hcl hI
    obtain ⟨AL4, cL5, u10, u11, u25, u26, u27, u28, u29, u30, u31, u32, u33, u34, rfl, e0, e2, e3, e4, e5, e6, e7, e8, e9, e10, e11, hB0, hR1, hQ⟩ := hI
    obtain rfl := e0 (hL 0 (by decide))
    obtain rfl := e2 (hL 2 (by decide))
    obtain rfl := e3 (hL 3 (by decide))
    obtain rfl := e4 (hL 4 (by decide))
    obtain rfl := e5 (hL 5 (by decide))
    obtain rfl := e6 (hL 6 (by decide))
    obtain rfl := e7 (hL 7 (by decide))
    obtain rfl := e8 (hL 8 (by decide))
    obtain rfl := e9 (hL 9 (by decide))
    obtain rfl := e10 (hL 10 (by decide))
    obtain rfl := e11 (hL 11 (by decide))
    have hL6 := hQ (hL 6 (by decide))
    clear hQ
    obtain ⟨g8, rfl, hA9⟩ := hR1 (hL 1 (by decide))
    clear hcl hL
    have hB := hB.trans (hB0.mono hB.size)
    have hX1 := hX1.up hB0
    clear hB0
    obtain ⟨w7, hW⟩ : ∃ W, W = wz := ⟨_, rfl⟩
    rw [← hW] at hX1 hL6 hB ⊢
    clear hW
    have hD := n0 w7
    go_wp2_with fail
    refine (Ht0.out _ (H0.out.up hB)).mono ?_
    rintro e w10 ⟨g11, rfl, hgg11, hA12, hb⟩
    have hs13 := hB.size
    have hd13 := hD.size
    have hx13_0 := hX1.lt
    have hB := nx hB hb
    have hD := nx hD hb
    have hX1 := hX1.up hb
    clear hb
    have hlg11 := hA12.lt
    have c14 := hX1.cell 0 (by omega)
    have c15 := hX1.cell 1 (by omega)
    go_wp2_with fail
    clear c14 c15
    refine (Htg.out k b _).mono ?_
    rintro e w16 ⟨rfl, hb⟩
    have hB := nx hB hb
    have hD := nx hD hb
    have hX1 := hX1.up hb
    have hA12 := hA12.up hb
    clear hb
    go_wp2_with fail
    refine (Hi.out _ _ _ (row_of_at hA12)).mono ?_
    rintro e w17 ⟨AL18, cL19, rfl, hL20, hb⟩
    have hs21 := hB.size
    have hd21 := hD.size
    have hx21_0 := hX1.lt
    have hx21_1 := hA12.lt
    have hB := nx hB hb
    have hD := nx hD hb
    have hX1 := hX1.up hb
    have hA12 := hA12.up hb
    clear hb
    go_wp2_with fail
    refine (He.out _ _ _ _ _ _ _ hL20 (hL6.up hD)).mono ?_
    rintro e w22 ⟨rfl, hb⟩
    have hB := nx hB hb
    have hD := nx hD hb
    have hX1 := hX1.up hb
    have hA12 := hA12.up hb
    have hL20 := hL20.up hb
    clear hb
    cases z
    · go_wp2_with fail
      refine (Ht0.out _ (H0.out.up hB)).mono ?_
      rintro e w23 ⟨g24, rfl, hgg24, hA25, hb⟩
      have hs26 := hB.size
      have hd26 := hD.size
      have hx26_0 := hX1.lt
      have hx26_1 := hA12.lt
      have hB := nx hB hb
      have hD := nx hD hb
      have hX1 := hX1.up hb
      have hA12 := hA12.up hb
      have hL20 := hL20.up hb
      clear hb
      have hlg24 := hA25.lt
      go_wp2_with fail
      refine (HqS0.out _ _ _ _ _ (row_of_at hA12) (row_of_at hA25)).mono ?_
      rintro e w27 ⟨rfl, hb⟩
      have hB := nx hB hb
      have hD := nx hD hb
      have hX1 := hX1.up hb
      have hA12 := hA12.up hb
      have hL20 := hL20.up hb
      have hA25 := hA25.up hb
      clear hb
      go_wp2_with fail
      refine (Hmd0.out _ _ _ _ hA12).mono ?_
      rintro e w28 ⟨rfl, _, hR⟩
      have hs29 := hB.size
      have hd29 := hD.size
      have hx29_0 := hX1.lt
      have hx29_1 := hA12.lt
      have hx29_3 := hA25.lt
      have hB := hB.grown hR hs29 (fun k e => by injection e with e; omega)
      have hD := hD.grown hR hd29 (fun k e => by injection e with e; omega)
      have hX1 := At.keptL hX1 hR (by omega)
      have hL20 := hL20.kept hR (by omega)
      clear hR
      go_wp2_with fail
      refine (He.out _ _ _ _ _ _ _ hL20 (hL6.up hD)).mono ?_
      rintro e w30 ⟨rfl, hb⟩
      have hB := nx hB hb
      have hD := nx hD hb
      have hX1 := hX1.up hb
      have hL20 := hL20.up hb
      clear hb
      go_wp2_with fail
      refine (Hmi.out _ _ _ _ hL20).mono ?_
      rintro e w31 ⟨rfl, hL32, hb⟩
      have hX1 := hX1.below (by omega) hb
      have hB := hB.trans (hb.mono (by omega))
      have hD := hD.trans (hb.mono (by omega))
      clear hb
      go_wp2_with fail
      refine (Hhi.out _ _ _ _ hL32).mono ?_
      rintro e w33 ⟨rfl, hb⟩
      have hB := nx hB hb
      have hD := nx hD hb
      have hX1 := hX1.up hb
      have hL32 := hL32.up hb
      clear hb
      go_wp2_with fail
      obtain ⟨W34, hW⟩ : ∃ W, W = w33 := ⟨_, rfl⟩
      rw [← hW] at hX1 hL32 hB hD ⊢
      clear hW
      refine wp_region_inc (I := fun L az w' => ∃ (AX : Option Addr) (cX : Nat), ∃ u18 u19 u87 u88 u89 u90 u91 u92 u93 u94 u95 u96 : Value, az = ⟨#[.slice A n c, .agg #[.int .i64 k, .int .i64 b], .int .i64 N, .int .i64 r, undef, .pointer (some ⟨w.heap.size, 0, none⟩), undef, undef, .bool false, .int .i64 (1048576 - (n : Int)), .slice AL4 m cL5, .bool false, .slice (some ⟨g11, 0, none⟩) n n, .slice AL18 m cL19, .bool false, .int .i64 (1 + 6 * (n : Int)), .int .i64 (1 + (m : Int)), .int .i64 (1 + (m : Int)), u18, u19, .slice A n c, .int .i64 1048576, .int .i64 (1048576 - (n : Int)), .int .i64 (1048576 - (n : Int)), .bool (decide (1048576 - (n : Int) < 0)), .tuple #[.slice AL4 m cL5, .bool false], .slice A n c, .slice (some ⟨g8, 0, none⟩) n n, .agg #[.int .i64 k, .int .i64 b], .agg #[.int .i64 k, .int .i64 b], .int .i64 N, .int .i64 r, .tuple #[.slice AL4 m cL5, .bool false], .slice AL4 m cL5, .bool false, .slice A n c, .slice (some ⟨g11, 0, none⟩) n n, .tuple #[.slice AL18 m cL19, .bool false], .slice (some ⟨g11, 0, none⟩) n n, .agg #[.int .i64 k, .int .i64 b], .agg #[.int .i64 k, .int .i64 b], .int .i64 N, .int .i64 r, .tuple #[.slice AL18 m cL19, .bool false], .slice AL18 m cL19, .bool false, .slice AL18 m cL19, .slice AL4 m cL5, .bool true, .bool false, .bool false, .bool false, .bool false, .bool false, .bool false, .slice (some ⟨g11, 0, none⟩) n n, .slice A n c, .slice (some ⟨g24, 0, none⟩) n n, .bool true, .bool false, .slice (some ⟨g11, 0, none⟩) n n, .int .i64 1, .int .i64 (1 + 6 * (n : Int)), .int .i64 (1 + 6 * (n : Int)), .bool false, .bool false, .slice AL18 m cL19, .slice AL4 m cL5, .bool true, .bool false, .bool false, .bool false, .bool false, .bool false, .bool false, .bool false, .slice AL18 m cL19, .int .i64 1, .int .i64 (1 + (m : Int)), .slice AL18 m cL19, .int .i64 1, .int .i64 (1 + (m : Int)), .int .i64 (1 + (m : Int)), .bool false, .int .i64 (1 + (m : Int)), .int .i64 (1 + (m : Int)), .bool false, u87, u88, u89, u90, u91, u92, u93, u94, u95, u96, undef, undef, undef, undef, undef, undef, undef, undef, undef, undef, undef, undef, undef, undef, undef, undef, undef], []⟩ ∧ (L 0 = true → u88 = (.slice A n c)) ∧ (L 2 = true → u90 = (.agg #[.int .i64 k, .int .i64 b])) ∧ (L 3 = true → u91 = (.agg #[.int .i64 k, .int .i64 b])) ∧ (L 4 = true → u92 = (.int .i64 N)) ∧ (L 5 = true → u93 = (.int .i64 r)) ∧ (L 6 = true → u94 = (.tuple #[.slice AX m cX, .bool false])) ∧ (L 7 = true → u87 = (.tuple #[.slice AX m cX, .bool false])) ∧ (L 8 = true → u95 = (.slice AX m cX)) ∧ (L 9 = true → u96 = (.bool false)) ∧ (L 10 = true → u18 = (.slice AX m cX)) ∧ (L 11 = true → u19 = (.bool false)) ∧ Below W34.heap.size W34 w' ∧ (L 1 = true → ∃ q, u89 = .slice (some ⟨q, 0, none⟩) n n ∧ At w' q (n * 6) (flat P)) ∧ (L 6 = true → Ints W34.heap.size w' AX m f)) (by kernel_rfl) (by kernel_rfl) ?_ ?_ ?_
      · exact ⟨none, 0, _, _, _, _, _, _, _, _, _, _, _, _, rfl, (fun h => by cases h), (fun h => by cases h), (fun h => by cases h), (fun h => by cases h), (fun h => by cases h), (fun h => by cases h), (fun h => by cases h), (fun h => by cases h), (fun h => by cases h), (fun h => by cases h), (fun h => by cases h), ((Below.refl _ W34).drew), (fun h => by cases h), (fun h => by cases h)⟩
      · intro L az wz i hi hL hdep hcl hI
        obtain ⟨AX, cX, u18, u19, u87, u88, u89, u90, u91, u92, u93, u94, u95, u96, rfl, e0, e2, e3, e4, e5, e6, e7, e8, e9, e10, e11, hB0, hR1, hQ⟩ := hI
        have hi' : i < 12 := hi
        clear hi
        obtain rfl | rfl | rfl | rfl | rfl | rfl | rfl | rfl | rfl | rfl | rfl | rfl : i = 0 ∨ i = 1 ∨ i = 2 ∨ i = 3 ∨ i = 4 ∨ i = 5 ∨ i = 6 ∨ i = 7 ∨ i = 8 ∨ i = 9 ∨ i = 10 ∨ i = 11 := by omega
        · refine wpOp_want rfl rfl (Oper.wp_of_quiet (C := fun w' => w' = wz) (K := fun a' => a' = ⟨#[.slice A n c, .agg #[.int .i64 k, .int .i64 b], .int .i64 N, .int .i64 r, undef, .pointer (some ⟨w.heap.size, 0, none⟩), undef, undef, .bool false, .int .i64 (1048576 - (n : Int)), .slice AL4 m cL5, .bool false, .slice (some ⟨g11, 0, none⟩) n n, .slice AL18 m cL19, .bool false, .int .i64 (1 + 6 * (n : Int)), .int .i64 (1 + (m : Int)), .int .i64 (1 + (m : Int)), u18, u19, .slice A n c, .int .i64 1048576, .int .i64 (1048576 - (n : Int)), .int .i64 (1048576 - (n : Int)), .bool (decide (1048576 - (n : Int) < 0)), .tuple #[.slice AL4 m cL5, .bool false], .slice A n c, .slice (some ⟨g8, 0, none⟩) n n, .agg #[.int .i64 k, .int .i64 b], .agg #[.int .i64 k, .int .i64 b], .int .i64 N, .int .i64 r, .tuple #[.slice AL4 m cL5, .bool false], .slice AL4 m cL5, .bool false, .slice A n c, .slice (some ⟨g11, 0, none⟩) n n, .tuple #[.slice AL18 m cL19, .bool false], .slice (some ⟨g11, 0, none⟩) n n, .agg #[.int .i64 k, .int .i64 b], .agg #[.int .i64 k, .int .i64 b], .int .i64 N, .int .i64 r, .tuple #[.slice AL18 m cL19, .bool false], .slice AL18 m cL19, .bool false, .slice AL18 m cL19, .slice AL4 m cL5, .bool true, .bool false, .bool false, .bool false, .bool false, .bool false, .bool false, .slice (some ⟨g11, 0, none⟩) n n, .slice A n c, .slice (some ⟨g24, 0, none⟩) n n, .bool true, .bool false, .slice (some ⟨g11, 0, none⟩) n n, .int .i64 1, .int .i64 (1 + 6 * (n : Int)), .int .i64 (1 + 6 * (n : Int)), .bool false, .bool false, .slice AL18 m cL19, .slice AL4 m cL5, .bool true, .bool false, .bool false, .bool false, .bool false, .bool false, .bool false, .bool false, .slice AL18 m cL19, .int .i64 1, .int .i64 (1 + (m : Int)), .slice AL18 m cL19, .int .i64 1, .int .i64 (1 + (m : Int)), .int .i64 (1 + (m : Int)), .bool false, .int .i64 (1 + (m : Int)), .int .i64 (1 + (m : Int)), .bool false, u87, (.slice A n c), u89, u90, u91, u92, u93, u94, u95, u96, undef, undef, undef, undef, undef, undef, undef, undef, undef, undef, undef, undef, undef, undef, undef, undef, undef], []⟩) rfl ?_ ?_)
          · intro a' w' hC' hK
            subst hK
            subst hC'
            exact ⟨AX, cX, u18, u19, u87, (.slice A n c), u89, u90, u91, u92, u93, u94, u95, u96, by first | rfl | (simp; done) | (simp; exact ⟨rfl, rfl⟩), fun _ => rfl, e2, e3, e4, e5, e6, e7, e8, e9, e10, e11, hB0, hR1, hQ⟩
          · exact BigFrame.quiet_move _ rfl rfl
        · obtain rfl := e0 (hdep 0 (by kernel_rfl))
          have HB := Lib.hid hB0; clear hB0
          refine wpOp_want rfl rfl ?_
          go_simp
          refine (Ht0.out _ (H0.out.up (hB.trans (HB.out.mono hB.size)))).mono ?_
          rintro e w9 ⟨gr, rfl, _, hAr, hb⟩
          go_simp
          exact ⟨AX, cX, u18, u19, u87, (.slice A n c), (.slice (some ⟨gr, 0, none⟩) n n), u90, u91, u92, u93, u94, u95, u96, by first | rfl | (simp; done) | (simp; exact ⟨rfl, rfl⟩), fun _ => rfl, e2, e3, e4, e5, e6, e7, e8, e9, e10, e11, HB.out.trans (hb.mono HB.out.size), (fun _ => ⟨gr, rfl, hAr⟩), (fun h1 => (hQ h1).up hb)⟩
        · have hXX := hX1.up hB0
          have c0 := hXX.cell 0 (by omega)
          have c1 := hXX.cell 1 (by omega)
          have HB := Lib.hid hB0; clear hB0
          refine wpOp_want rfl rfl ?_
          go_simp
          exact ⟨AX, cX, u18, u19, u87, u88, u89, (.agg #[.int .i64 k, .int .i64 b]), u91, u92, u93, u94, u95, u96, by first | rfl | (simp; done) | (simp; exact ⟨rfl, rfl⟩), e0, fun _ => rfl, e3, e4, e5, e6, e7, e8, e9, e10, e11, HB.out, hR1, hQ⟩
        · obtain rfl := e2 (hdep 2 (by kernel_rfl))
          have HB := Lib.hid hB0; clear hB0
          refine wpOp_want rfl rfl ?_
          go_simp
          refine (Htg.out k b _).mono ?_
          rintro e w9 ⟨rfl, hb⟩
          go_simp
          exact ⟨AX, cX, u18, u19, u87, u88, u89, (.agg #[.int .i64 k, .int .i64 b]), (.agg #[.int .i64 k, .int .i64 b]), u92, u93, u94, u95, u96, by first | rfl | (simp; done) | (simp; exact ⟨rfl, rfl⟩), e0, fun _ => rfl, fun _ => rfl, e4, e5, e6, e7, e8, e9, e10, e11, HB.out.trans (hb.mono HB.out.size), (fun h1 => by obtain ⟨q, e, hA⟩ := hR1 h1 ; exact ⟨q, e, hA.up hb⟩), (fun h1 => (hQ h1).up hb)⟩
        · refine wpOp_want rfl rfl (Oper.wp_of_quiet (C := fun w' => w' = wz) (K := fun a' => a' = ⟨#[.slice A n c, .agg #[.int .i64 k, .int .i64 b], .int .i64 N, .int .i64 r, undef, .pointer (some ⟨w.heap.size, 0, none⟩), undef, undef, .bool false, .int .i64 (1048576 - (n : Int)), .slice AL4 m cL5, .bool false, .slice (some ⟨g11, 0, none⟩) n n, .slice AL18 m cL19, .bool false, .int .i64 (1 + 6 * (n : Int)), .int .i64 (1 + (m : Int)), .int .i64 (1 + (m : Int)), u18, u19, .slice A n c, .int .i64 1048576, .int .i64 (1048576 - (n : Int)), .int .i64 (1048576 - (n : Int)), .bool (decide (1048576 - (n : Int) < 0)), .tuple #[.slice AL4 m cL5, .bool false], .slice A n c, .slice (some ⟨g8, 0, none⟩) n n, .agg #[.int .i64 k, .int .i64 b], .agg #[.int .i64 k, .int .i64 b], .int .i64 N, .int .i64 r, .tuple #[.slice AL4 m cL5, .bool false], .slice AL4 m cL5, .bool false, .slice A n c, .slice (some ⟨g11, 0, none⟩) n n, .tuple #[.slice AL18 m cL19, .bool false], .slice (some ⟨g11, 0, none⟩) n n, .agg #[.int .i64 k, .int .i64 b], .agg #[.int .i64 k, .int .i64 b], .int .i64 N, .int .i64 r, .tuple #[.slice AL18 m cL19, .bool false], .slice AL18 m cL19, .bool false, .slice AL18 m cL19, .slice AL4 m cL5, .bool true, .bool false, .bool false, .bool false, .bool false, .bool false, .bool false, .slice (some ⟨g11, 0, none⟩) n n, .slice A n c, .slice (some ⟨g24, 0, none⟩) n n, .bool true, .bool false, .slice (some ⟨g11, 0, none⟩) n n, .int .i64 1, .int .i64 (1 + 6 * (n : Int)), .int .i64 (1 + 6 * (n : Int)), .bool false, .bool false, .slice AL18 m cL19, .slice AL4 m cL5, .bool true, .bool false, .bool false, .bool false, .bool false, .bool false, .bool false, .bool false, .slice AL18 m cL19, .int .i64 1, .int .i64 (1 + (m : Int)), .slice AL18 m cL19, .int .i64 1, .int .i64 (1 + (m : Int)), .int .i64 (1 + (m : Int)), .bool false, .int .i64 (1 + (m : Int)), .int .i64 (1 + (m : Int)), .bool false, u87, u88, u89, u90, u91, (.int .i64 N), u93, u94, u95, u96, undef, undef, undef, undef, undef, undef, undef, undef, undef, undef, undef, undef, undef, undef, undef, undef, undef], []⟩) rfl ?_ ?_)
          · intro a' w' hC' hK
            subst hK
            subst hC'
            exact ⟨AX, cX, u18, u19, u87, u88, u89, u90, u91, (.int .i64 N), u93, u94, u95, u96, by first | rfl | (simp; done) | (simp; exact ⟨rfl, rfl⟩), e0, e2, e3, fun _ => rfl, e5, e6, e7, e8, e9, e10, e11, hB0, hR1, hQ⟩
          · exact BigFrame.quiet_move _ rfl rfl
        · refine wpOp_want rfl rfl (Oper.wp_of_quiet (C := fun w' => w' = wz) (K := fun a' => a' = ⟨#[.slice A n c, .agg #[.int .i64 k, .int .i64 b], .int .i64 N, .int .i64 r, undef, .pointer (some ⟨w.heap.size, 0, none⟩), undef, undef, .bool false, .int .i64 (1048576 - (n : Int)), .slice AL4 m cL5, .bool false, .slice (some ⟨g11, 0, none⟩) n n, .slice AL18 m cL19, .bool false, .int .i64 (1 + 6 * (n : Int)), .int .i64 (1 + (m : Int)), .int .i64 (1 + (m : Int)), u18, u19, .slice A n c, .int .i64 1048576, .int .i64 (1048576 - (n : Int)), .int .i64 (1048576 - (n : Int)), .bool (decide (1048576 - (n : Int) < 0)), .tuple #[.slice AL4 m cL5, .bool false], .slice A n c, .slice (some ⟨g8, 0, none⟩) n n, .agg #[.int .i64 k, .int .i64 b], .agg #[.int .i64 k, .int .i64 b], .int .i64 N, .int .i64 r, .tuple #[.slice AL4 m cL5, .bool false], .slice AL4 m cL5, .bool false, .slice A n c, .slice (some ⟨g11, 0, none⟩) n n, .tuple #[.slice AL18 m cL19, .bool false], .slice (some ⟨g11, 0, none⟩) n n, .agg #[.int .i64 k, .int .i64 b], .agg #[.int .i64 k, .int .i64 b], .int .i64 N, .int .i64 r, .tuple #[.slice AL18 m cL19, .bool false], .slice AL18 m cL19, .bool false, .slice AL18 m cL19, .slice AL4 m cL5, .bool true, .bool false, .bool false, .bool false, .bool false, .bool false, .bool false, .slice (some ⟨g11, 0, none⟩) n n, .slice A n c, .slice (some ⟨g24, 0, none⟩) n n, .bool true, .bool false, .slice (some ⟨g11, 0, none⟩) n n, .int .i64 1, .int .i64 (1 + 6 * (n : Int)), .int .i64 (1 + 6 * (n : Int)), .bool false, .bool false, .slice AL18 m cL19, .slice AL4 m cL5, .bool true, .bool false, .bool false, .bool false, .bool false, .bool false, .bool false, .bool false, .slice AL18 m cL19, .int .i64 1, .int .i64 (1 + (m : Int)), .slice AL18 m cL19, .int .i64 1, .int .i64 (1 + (m : Int)), .int .i64 (1 + (m : Int)), .bool false, .int .i64 (1 + (m : Int)), .int .i64 (1 + (m : Int)), .bool false, u87, u88, u89, u90, u91, u92, (.int .i64 r), u94, u95, u96, undef, undef, undef, undef, undef, undef, undef, undef, undef, undef, undef, undef, undef, undef, undef, undef, undef], []⟩) rfl ?_ ?_)
          · intro a' w' hC' hK
            subst hK
            subst hC'
            exact ⟨AX, cX, u18, u19, u87, u88, u89, u90, u91, u92, (.int .i64 r), u94, u95, u96, by first | rfl | (simp; done) | (simp; exact ⟨rfl, rfl⟩), e0, e2, e3, e4, fun _ => rfl, e6, e7, e8, e9, e10, e11, hB0, hR1, hQ⟩
          · exact BigFrame.quiet_move _ rfl rfl
        · obtain rfl := e3 (hdep 3 (by kernel_rfl))
          obtain rfl := e4 (hdep 4 (by kernel_rfl))
          obtain rfl := e5 (hdep 5 (by kernel_rfl))
          obtain ⟨g1, rfl, hAr1⟩ := hR1 (hdep 1 (by kernel_rfl))
          have HB := Lib.hid hB0; clear hB0
          refine wpOp_want rfl rfl ?_
          go_simp
          refine (Hi.out _ _ _ (row_of_at hAr1)).mono ?_
          rintro e w9 ⟨AY, cY, rfl, hY, hb⟩
          go_simp
          exact ⟨AY, cY, u18, u19, u87, u88, (.slice (some ⟨g1, 0, none⟩) n n), u90, (.agg #[.int .i64 k, .int .i64 b]), (.int .i64 N), (.int .i64 r), (.tuple #[.slice AY m cY, .bool false]), u95, u96, by first | rfl | (simp; done) | (simp; exact ⟨rfl, rfl⟩), e0, e2, fun _ => rfl, fun _ => rfl, fun _ => rfl, fun _ => rfl, fun h => absurd (hcl 7 6 h (by kernel_rfl)) (by rw [hL]; decide), fun h => absurd (hcl 7 6 (hcl 8 7 h (by kernel_rfl)) (by kernel_rfl)) (by rw [hL]; decide), e9, fun h => absurd (hcl 7 6 (hcl 8 7 (hcl 10 8 h (by kernel_rfl)) (by kernel_rfl)) (by kernel_rfl)) (by rw [hL]; decide), e11, HB.out.trans (hb.mono HB.out.size), (fun h1 => by obtain ⟨q, e, hA⟩ := hR1 h1 ; exact ⟨q, e, hA.up hb⟩), (fun _ => hY.mono HB.out.size)⟩
        · obtain rfl := e6 (hdep 6 (by kernel_rfl))
          refine wpOp_want rfl rfl (Oper.wp_of_quiet (C := fun w' => w' = wz) (K := fun a' => a' = ⟨#[.slice A n c, .agg #[.int .i64 k, .int .i64 b], .int .i64 N, .int .i64 r, undef, .pointer (some ⟨w.heap.size, 0, none⟩), undef, undef, .bool false, .int .i64 (1048576 - (n : Int)), .slice AL4 m cL5, .bool false, .slice (some ⟨g11, 0, none⟩) n n, .slice AL18 m cL19, .bool false, .int .i64 (1 + 6 * (n : Int)), .int .i64 (1 + (m : Int)), .int .i64 (1 + (m : Int)), u18, u19, .slice A n c, .int .i64 1048576, .int .i64 (1048576 - (n : Int)), .int .i64 (1048576 - (n : Int)), .bool (decide (1048576 - (n : Int) < 0)), .tuple #[.slice AL4 m cL5, .bool false], .slice A n c, .slice (some ⟨g8, 0, none⟩) n n, .agg #[.int .i64 k, .int .i64 b], .agg #[.int .i64 k, .int .i64 b], .int .i64 N, .int .i64 r, .tuple #[.slice AL4 m cL5, .bool false], .slice AL4 m cL5, .bool false, .slice A n c, .slice (some ⟨g11, 0, none⟩) n n, .tuple #[.slice AL18 m cL19, .bool false], .slice (some ⟨g11, 0, none⟩) n n, .agg #[.int .i64 k, .int .i64 b], .agg #[.int .i64 k, .int .i64 b], .int .i64 N, .int .i64 r, .tuple #[.slice AL18 m cL19, .bool false], .slice AL18 m cL19, .bool false, .slice AL18 m cL19, .slice AL4 m cL5, .bool true, .bool false, .bool false, .bool false, .bool false, .bool false, .bool false, .slice (some ⟨g11, 0, none⟩) n n, .slice A n c, .slice (some ⟨g24, 0, none⟩) n n, .bool true, .bool false, .slice (some ⟨g11, 0, none⟩) n n, .int .i64 1, .int .i64 (1 + 6 * (n : Int)), .int .i64 (1 + 6 * (n : Int)), .bool false, .bool false, .slice AL18 m cL19, .slice AL4 m cL5, .bool true, .bool false, .bool false, .bool false, .bool false, .bool false, .bool false, .bool false, .slice AL18 m cL19, .int .i64 1, .int .i64 (1 + (m : Int)), .slice AL18 m cL19, .int .i64 1, .int .i64 (1 + (m : Int)), .int .i64 (1 + (m : Int)), .bool false, .int .i64 (1 + (m : Int)), .int .i64 (1 + (m : Int)), .bool false, (.tuple #[.slice AX m cX, .bool false]), u88, u89, u90, u91, u92, u93, (.tuple #[.slice AX m cX, .bool false]), u95, u96, undef, undef, undef, undef, undef, undef, undef, undef, undef, undef, undef, undef, undef, undef, undef, undef, undef], []⟩) rfl ?_ ?_)
          · intro a' w' hC' hK
            subst hK
            subst hC'
            exact ⟨AX, cX, u18, u19, (.tuple #[.slice AX m cX, .bool false]), u88, u89, u90, u91, u92, u93, (.tuple #[.slice AX m cX, .bool false]), u95, u96, by first | rfl | (simp; done) | (simp; exact ⟨rfl, rfl⟩), e0, e2, e3, e4, e5, fun _ => rfl, fun _ => rfl, e8, e9, e10, e11, hB0, hR1, hQ⟩
          · exact BigFrame.quiet_move _ rfl rfl
        · obtain rfl := e7 (hdep 7 (by kernel_rfl))
          refine wpOp_want rfl rfl (Oper.wp_of_quiet (C := fun w' => w' = wz) (K := fun a' => a' = ⟨#[.slice A n c, .agg #[.int .i64 k, .int .i64 b], .int .i64 N, .int .i64 r, undef, .pointer (some ⟨w.heap.size, 0, none⟩), undef, undef, .bool false, .int .i64 (1048576 - (n : Int)), .slice AL4 m cL5, .bool false, .slice (some ⟨g11, 0, none⟩) n n, .slice AL18 m cL19, .bool false, .int .i64 (1 + 6 * (n : Int)), .int .i64 (1 + (m : Int)), .int .i64 (1 + (m : Int)), u18, u19, .slice A n c, .int .i64 1048576, .int .i64 (1048576 - (n : Int)), .int .i64 (1048576 - (n : Int)), .bool (decide (1048576 - (n : Int) < 0)), .tuple #[.slice AL4 m cL5, .bool false], .slice A n c, .slice (some ⟨g8, 0, none⟩) n n, .agg #[.int .i64 k, .int .i64 b], .agg #[.int .i64 k, .int .i64 b], .int .i64 N, .int .i64 r, .tuple #[.slice AL4 m cL5, .bool false], .slice AL4 m cL5, .bool false, .slice A n c, .slice (some ⟨g11, 0, none⟩) n n, .tuple #[.slice AL18 m cL19, .bool false], .slice (some ⟨g11, 0, none⟩) n n, .agg #[.int .i64 k, .int .i64 b], .agg #[.int .i64 k, .int .i64 b], .int .i64 N, .int .i64 r, .tuple #[.slice AL18 m cL19, .bool false], .slice AL18 m cL19, .bool false, .slice AL18 m cL19, .slice AL4 m cL5, .bool true, .bool false, .bool false, .bool false, .bool false, .bool false, .bool false, .slice (some ⟨g11, 0, none⟩) n n, .slice A n c, .slice (some ⟨g24, 0, none⟩) n n, .bool true, .bool false, .slice (some ⟨g11, 0, none⟩) n n, .int .i64 1, .int .i64 (1 + 6 * (n : Int)), .int .i64 (1 + 6 * (n : Int)), .bool false, .bool false, .slice AL18 m cL19, .slice AL4 m cL5, .bool true, .bool false, .bool false, .bool false, .bool false, .bool false, .bool false, .bool false, .slice AL18 m cL19, .int .i64 1, .int .i64 (1 + (m : Int)), .slice AL18 m cL19, .int .i64 1, .int .i64 (1 + (m : Int)), .int .i64 (1 + (m : Int)), .bool false, .int .i64 (1 + (m : Int)), .int .i64 (1 + (m : Int)), .bool false, (.tuple #[.slice AX m cX, .bool false]), u88, u89, u90, u91, u92, u93, u94, (.slice AX m cX), u96, undef, undef, undef, undef, undef, undef, undef, undef, undef, undef, undef, undef, undef, undef, undef, undef, undef], []⟩) rfl ?_ ?_)
          · intro a' w' hC' hK
            subst hK
            subst hC'
            exact ⟨AX, cX, u18, u19, (.tuple #[.slice AX m cX, .bool false]), u88, u89, u90, u91, u92, u93, u94, (.slice AX m cX), u96, by first | rfl | (simp; done) | (simp; exact ⟨rfl, rfl⟩), e0, e2, e3, e4, e5, e6, fun _ => rfl, fun _ => rfl, e9, e10, e11, hB0, hR1, hQ⟩
          · exact ⟨(.slice AX m cX), fun w' hw' => ⟨rfl, rfl⟩, rfl⟩
        · obtain rfl := e7 (hdep 7 (by kernel_rfl))
          refine wpOp_want rfl rfl (Oper.wp_of_quiet (C := fun w' => w' = wz) (K := fun a' => a' = ⟨#[.slice A n c, .agg #[.int .i64 k, .int .i64 b], .int .i64 N, .int .i64 r, undef, .pointer (some ⟨w.heap.size, 0, none⟩), undef, undef, .bool false, .int .i64 (1048576 - (n : Int)), .slice AL4 m cL5, .bool false, .slice (some ⟨g11, 0, none⟩) n n, .slice AL18 m cL19, .bool false, .int .i64 (1 + 6 * (n : Int)), .int .i64 (1 + (m : Int)), .int .i64 (1 + (m : Int)), u18, u19, .slice A n c, .int .i64 1048576, .int .i64 (1048576 - (n : Int)), .int .i64 (1048576 - (n : Int)), .bool (decide (1048576 - (n : Int) < 0)), .tuple #[.slice AL4 m cL5, .bool false], .slice A n c, .slice (some ⟨g8, 0, none⟩) n n, .agg #[.int .i64 k, .int .i64 b], .agg #[.int .i64 k, .int .i64 b], .int .i64 N, .int .i64 r, .tuple #[.slice AL4 m cL5, .bool false], .slice AL4 m cL5, .bool false, .slice A n c, .slice (some ⟨g11, 0, none⟩) n n, .tuple #[.slice AL18 m cL19, .bool false], .slice (some ⟨g11, 0, none⟩) n n, .agg #[.int .i64 k, .int .i64 b], .agg #[.int .i64 k, .int .i64 b], .int .i64 N, .int .i64 r, .tuple #[.slice AL18 m cL19, .bool false], .slice AL18 m cL19, .bool false, .slice AL18 m cL19, .slice AL4 m cL5, .bool true, .bool false, .bool false, .bool false, .bool false, .bool false, .bool false, .slice (some ⟨g11, 0, none⟩) n n, .slice A n c, .slice (some ⟨g24, 0, none⟩) n n, .bool true, .bool false, .slice (some ⟨g11, 0, none⟩) n n, .int .i64 1, .int .i64 (1 + 6 * (n : Int)), .int .i64 (1 + 6 * (n : Int)), .bool false, .bool false, .slice AL18 m cL19, .slice AL4 m cL5, .bool true, .bool false, .bool false, .bool false, .bool false, .bool false, .bool false, .bool false, .slice AL18 m cL19, .int .i64 1, .int .i64 (1 + (m : Int)), .slice AL18 m cL19, .int .i64 1, .int .i64 (1 + (m : Int)), .int .i64 (1 + (m : Int)), .bool false, .int .i64 (1 + (m : Int)), .int .i64 (1 + (m : Int)), .bool false, (.tuple #[.slice AX m cX, .bool false]), u88, u89, u90, u91, u92, u93, u94, u95, (.bool false), undef, undef, undef, undef, undef, undef, undef, undef, undef, undef, undef, undef, undef, undef, undef, undef, undef], []⟩) rfl ?_ ?_)
          · intro a' w' hC' hK
            subst hK
            subst hC'
            exact ⟨AX, cX, u18, u19, (.tuple #[.slice AX m cX, .bool false]), u88, u89, u90, u91, u92, u93, u94, u95, (.bool false), by first | rfl | (simp; done) | (simp; exact ⟨rfl, rfl⟩), e0, e2, e3, e4, e5, e6, fun _ => rfl, e8, fun _ => rfl, e10, e11, hB0, hR1, hQ⟩
          · exact ⟨(.bool false), fun w' hw' => ⟨rfl, rfl⟩, rfl⟩
        · obtain rfl := e8 (hdep 8 (by kernel_rfl))
          refine wpOp_want rfl rfl (Oper.wp_of_quiet (C := fun w' => w' = wz) (K := fun a' => a' = ⟨#[.slice A n c, .agg #[.int .i64 k, .int .i64 b], .int .i64 N, .int .i64 r, undef, .pointer (some ⟨w.heap.size, 0, none⟩), undef, undef, .bool false, .int .i64 (1048576 - (n : Int)), .slice AL4 m cL5, .bool false, .slice (some ⟨g11, 0, none⟩) n n, .slice AL18 m cL19, .bool false, .int .i64 (1 + 6 * (n : Int)), .int .i64 (1 + (m : Int)), .int .i64 (1 + (m : Int)), (.slice AX m cX), u19, .slice A n c, .int .i64 1048576, .int .i64 (1048576 - (n : Int)), .int .i64 (1048576 - (n : Int)), .bool (decide (1048576 - (n : Int) < 0)), .tuple #[.slice AL4 m cL5, .bool false], .slice A n c, .slice (some ⟨g8, 0, none⟩) n n, .agg #[.int .i64 k, .int .i64 b], .agg #[.int .i64 k, .int .i64 b], .int .i64 N, .int .i64 r, .tuple #[.slice AL4 m cL5, .bool false], .slice AL4 m cL5, .bool false, .slice A n c, .slice (some ⟨g11, 0, none⟩) n n, .tuple #[.slice AL18 m cL19, .bool false], .slice (some ⟨g11, 0, none⟩) n n, .agg #[.int .i64 k, .int .i64 b], .agg #[.int .i64 k, .int .i64 b], .int .i64 N, .int .i64 r, .tuple #[.slice AL18 m cL19, .bool false], .slice AL18 m cL19, .bool false, .slice AL18 m cL19, .slice AL4 m cL5, .bool true, .bool false, .bool false, .bool false, .bool false, .bool false, .bool false, .slice (some ⟨g11, 0, none⟩) n n, .slice A n c, .slice (some ⟨g24, 0, none⟩) n n, .bool true, .bool false, .slice (some ⟨g11, 0, none⟩) n n, .int .i64 1, .int .i64 (1 + 6 * (n : Int)), .int .i64 (1 + 6 * (n : Int)), .bool false, .bool false, .slice AL18 m cL19, .slice AL4 m cL5, .bool true, .bool false, .bool false, .bool false, .bool false, .bool false, .bool false, .bool false, .slice AL18 m cL19, .int .i64 1, .int .i64 (1 + (m : Int)), .slice AL18 m cL19, .int .i64 1, .int .i64 (1 + (m : Int)), .int .i64 (1 + (m : Int)), .bool false, .int .i64 (1 + (m : Int)), .int .i64 (1 + (m : Int)), .bool false, u87, u88, u89, u90, u91, u92, u93, u94, (.slice AX m cX), u96, undef, undef, undef, undef, undef, undef, undef, undef, undef, undef, undef, undef, undef, undef, undef, undef, undef], []⟩) rfl ?_ ?_)
          · intro a' w' hC' hK
            subst hK
            subst hC'
            exact ⟨AX, cX, (.slice AX m cX), u19, u87, u88, u89, u90, u91, u92, u93, u94, (.slice AX m cX), u96, by first | rfl | (simp; done) | (simp; exact ⟨rfl, rfl⟩), e0, e2, e3, e4, e5, e6, e7, fun _ => rfl, e9, fun _ => rfl, e11, hB0, hR1, hQ⟩
          · exact BigFrame.quiet_assign _ rfl rfl
        · obtain rfl := e9 (hdep 9 (by kernel_rfl))
          refine wpOp_want rfl rfl (Oper.wp_of_quiet (C := fun w' => w' = wz) (K := fun a' => a' = ⟨#[.slice A n c, .agg #[.int .i64 k, .int .i64 b], .int .i64 N, .int .i64 r, undef, .pointer (some ⟨w.heap.size, 0, none⟩), undef, undef, .bool false, .int .i64 (1048576 - (n : Int)), .slice AL4 m cL5, .bool false, .slice (some ⟨g11, 0, none⟩) n n, .slice AL18 m cL19, .bool false, .int .i64 (1 + 6 * (n : Int)), .int .i64 (1 + (m : Int)), .int .i64 (1 + (m : Int)), u18, (.bool false), .slice A n c, .int .i64 1048576, .int .i64 (1048576 - (n : Int)), .int .i64 (1048576 - (n : Int)), .bool (decide (1048576 - (n : Int) < 0)), .tuple #[.slice AL4 m cL5, .bool false], .slice A n c, .slice (some ⟨g8, 0, none⟩) n n, .agg #[.int .i64 k, .int .i64 b], .agg #[.int .i64 k, .int .i64 b], .int .i64 N, .int .i64 r, .tuple #[.slice AL4 m cL5, .bool false], .slice AL4 m cL5, .bool false, .slice A n c, .slice (some ⟨g11, 0, none⟩) n n, .tuple #[.slice AL18 m cL19, .bool false], .slice (some ⟨g11, 0, none⟩) n n, .agg #[.int .i64 k, .int .i64 b], .agg #[.int .i64 k, .int .i64 b], .int .i64 N, .int .i64 r, .tuple #[.slice AL18 m cL19, .bool false], .slice AL18 m cL19, .bool false, .slice AL18 m cL19, .slice AL4 m cL5, .bool true, .bool false, .bool false, .bool false, .bool false, .bool false, .bool false, .slice (some ⟨g11, 0, none⟩) n n, .slice A n c, .slice (some ⟨g24, 0, none⟩) n n, .bool true, .bool false, .slice (some ⟨g11, 0, none⟩) n n, .int .i64 1, .int .i64 (1 + 6 * (n : Int)), .int .i64 (1 + 6 * (n : Int)), .bool false, .bool false, .slice AL18 m cL19, .slice AL4 m cL5, .bool true, .bool false, .bool false, .bool false, .bool false, .bool false, .bool false, .bool false, .slice AL18 m cL19, .int .i64 1, .int .i64 (1 + (m : Int)), .slice AL18 m cL19, .int .i64 1, .int .i64 (1 + (m : Int)), .int .i64 (1 + (m : Int)), .bool false, .int .i64 (1 + (m : Int)), .int .i64 (1 + (m : Int)), .bool false, u87, u88, u89, u90, u91, u92, u93, u94, u95, (.bool false), undef, undef, undef, undef, undef, undef, undef, undef, undef, undef, undef, undef, undef, undef, undef, undef, undef], []⟩) rfl ?_ ?_)
          · intro a' w' hC' hK
            subst hK
            subst hC'
            exact ⟨AX, cX, u18, (.bool false), u87, u88, u89, u90, u91, u92, u93, u94, u95, (.bool false), by first | rfl | (simp; done) | (simp; exact ⟨rfl, rfl⟩), e0, e2, e3, e4, e5, e6, e7, e8, fun _ => rfl, e10, fun _ => rfl, hB0, hR1, hQ⟩
          · exact BigFrame.quiet_assign _ rfl rfl
      intro L az wz hL hcl hI
      obtain ⟨AL35, cL36, u18, u19, u87, u88, u89, u90, u91, u92, u93, u94, u95, u96, rfl, e0, e2, e3, e4, e5, e6, e7, e8, e9, e10, e11, hB0, hR1, hQ⟩ := hI
      obtain rfl := e0 (hL 0 (by decide))
      obtain rfl := e2 (hL 2 (by decide))
      obtain rfl := e3 (hL 3 (by decide))
      obtain rfl := e4 (hL 4 (by decide))
      obtain rfl := e5 (hL 5 (by decide))
      obtain rfl := e6 (hL 6 (by decide))
      obtain rfl := e7 (hL 7 (by decide))
      obtain rfl := e8 (hL 8 (by decide))
      obtain rfl := e9 (hL 9 (by decide))
      obtain rfl := e10 (hL 10 (by decide))
      obtain rfl := e11 (hL 11 (by decide))
      have hL37 := hQ (hL 6 (by decide))
      clear hQ
      obtain ⟨g39, rfl, hA40⟩ := hR1 (hL 1 (by decide))
      clear hcl hL
      have hB := hB.trans (hB0.mono hB.size)
      have hD := hD.trans (hB0.mono hD.size)
      have hX1 := hX1.up hB0
      have hL32 := hL32.up hB0
      clear hB0
      obtain ⟨w38, hW⟩ : ∃ W, W = wz := ⟨_, rfl⟩
      rw [← hW] at hX1 hL32 hL37 hB hD ⊢
      clear hW
      go_wp2_with fail
      refine (He.out _ _ _ _ _ _ _ hL37 (hL6.up hD)).mono ?_
      rintro e w41 ⟨rfl, hb⟩
      have hB := nx hB hb
      have hD := nx hD hb
      have hX1 := hX1.up hb
      have hL32 := hL32.up hb
      have hL37 := hL37.up hb
      clear hb
      go_wp2_with fail
      refine (Hhi.out _ _ _ _ hL32).mono ?_
      rintro e w42 ⟨rfl, hb⟩
      have hB := nx hB hb
      have hD := nx hD hb
      have hX1 := hX1.up hb
      have hL32 := hL32.up hb
      have hL37 := hL37.up hb
      clear hb
      go_wp2_with fail
      go_ret
      exact ⟨rfl, hB⟩
    · go_wp2_with fail
      refine (Ht0.out _ (H0.out.up hB)).mono ?_
      rintro e w23 ⟨g24, rfl, hgg24, hA25, hb⟩
      have hs26 := hB.size
      have hd26 := hD.size
      have hx26_0 := hX1.lt
      have hx26_1 := hA12.lt
      have hB := nx hB hb
      have hD := nx hD hb
      have hX1 := hX1.up hb
      have hA12 := hA12.up hb
      have hL20 := hL20.up hb
      clear hb
      have hlg24 := hA25.lt
      go_wp2_with fail
      refine (HqS0.out _ _ _ _ _ (row_of_at hA12) (row_of_at hA25)).mono ?_
      rintro e w27 ⟨rfl, hb⟩
      have hB := nx hB hb
      have hD := nx hD hb
      have hX1 := hX1.up hb
      have hA12 := hA12.up hb
      have hL20 := hL20.up hb
      have hA25 := hA25.up hb
      clear hb
      go_wp2_with fail
      refine (Hmd0.out _ _ _ _ hA12).mono ?_
      rintro e w28 ⟨rfl, _, hR⟩
      have hs29 := hB.size
      have hd29 := hD.size
      have hx29_0 := hX1.lt
      have hx29_1 := hA12.lt
      have hx29_3 := hA25.lt
      have hB := hB.grown hR hs29 (fun k e => by injection e with e; omega)
      have hD := hD.grown hR hd29 (fun k e => by injection e with e; omega)
      have hX1 := At.keptL hX1 hR (by omega)
      have hL20 := hL20.kept hR (by omega)
      clear hR
      go_wp2_with fail
      refine (He.out _ _ _ _ _ _ _ hL20 (hL6.up hD)).mono ?_
      rintro e w30 ⟨rfl, hb⟩
      have hB := nx hB hb
      have hD := nx hD hb
      have hX1 := hX1.up hb
      have hL20 := hL20.up hb
      clear hb
      go_wp2_with fail
      refine (Hmi.out _ _ _ _ hL20).mono ?_
      rintro e w31 ⟨rfl, hL32, hb⟩
      have hX1 := hX1.below (by omega) hb
      have hB := hB.trans (hb.mono (by omega))
      have hD := hD.trans (hb.mono (by omega))
      clear hb
      go_wp2_with fail
      refine (Hhi.out _ _ _ _ hL32).mono ?_
      rintro e w33 ⟨rfl, hb⟩
      have hB := nx hB hb
      have hD := nx hD hb
      have hX1 := hX1.up hb
      have hL32 := hL32.up hb
      clear hb
      go_wp2_with fail
      obtain ⟨W34, hW⟩ : ∃ W, W = w33 := ⟨_, rfl⟩
      rw [← hW] at hX1 hL32 hB hD ⊢
      clear hW
      refine wp_region_inc (I := fun L az w' => ∃ (AX : Option Addr) (cX : Nat), ∃ u18 u19 u87 u88 u89 u90 u91 u92 u93 u94 u95 u96 : Value, az = ⟨#[.slice A n c, .agg #[.int .i64 k, .int .i64 b], .int .i64 N, .int .i64 r, undef, .pointer (some ⟨w.heap.size, 0, none⟩), undef, undef, .bool false, .int .i64 (1048576 - (n : Int)), .slice AL4 m cL5, .bool true, .slice (some ⟨g11, 0, none⟩) n n, .slice AL18 m cL19, .bool true, .int .i64 (1 + 6 * (n : Int)), .int .i64 (1 + (m : Int)), .int .i64 (1 + (m : Int)), u18, u19, .slice A n c, .int .i64 1048576, .int .i64 (1048576 - (n : Int)), .int .i64 (1048576 - (n : Int)), .bool (decide (1048576 - (n : Int) < 0)), .tuple #[.slice AL4 m cL5, .bool true], .slice A n c, .slice (some ⟨g8, 0, none⟩) n n, .agg #[.int .i64 k, .int .i64 b], .agg #[.int .i64 k, .int .i64 b], .int .i64 N, .int .i64 r, .tuple #[.slice AL4 m cL5, .bool true], .slice AL4 m cL5, .bool true, .slice A n c, .slice (some ⟨g11, 0, none⟩) n n, .tuple #[.slice AL18 m cL19, .bool true], .slice (some ⟨g11, 0, none⟩) n n, .agg #[.int .i64 k, .int .i64 b], .agg #[.int .i64 k, .int .i64 b], .int .i64 N, .int .i64 r, .tuple #[.slice AL18 m cL19, .bool true], .slice AL18 m cL19, .bool true, .slice AL18 m cL19, .slice AL4 m cL5, .bool true, .bool false, .bool false, .bool true, .bool true, .bool false, .bool false, .slice (some ⟨g11, 0, none⟩) n n, .slice A n c, .slice (some ⟨g24, 0, none⟩) n n, .bool true, .bool false, .slice (some ⟨g11, 0, none⟩) n n, .int .i64 1, .int .i64 (1 + 6 * (n : Int)), .int .i64 (1 + 6 * (n : Int)), .bool false, .bool false, .slice AL18 m cL19, .slice AL4 m cL5, .bool true, .bool false, .bool false, .bool false, .bool true, .bool true, .bool false, .bool false, .slice AL18 m cL19, .int .i64 1, .int .i64 (1 + (m : Int)), .slice AL18 m cL19, .int .i64 1, .int .i64 (1 + (m : Int)), .int .i64 (1 + (m : Int)), .bool false, .int .i64 (1 + (m : Int)), .int .i64 (1 + (m : Int)), .bool false, u87, u88, u89, u90, u91, u92, u93, u94, u95, u96, undef, undef, undef, undef, undef, undef, undef, undef, undef, undef, undef, undef, undef, undef, undef, undef, undef], []⟩ ∧ (L 0 = true → u88 = (.slice A n c)) ∧ (L 2 = true → u90 = (.agg #[.int .i64 k, .int .i64 b])) ∧ (L 3 = true → u91 = (.agg #[.int .i64 k, .int .i64 b])) ∧ (L 4 = true → u92 = (.int .i64 N)) ∧ (L 5 = true → u93 = (.int .i64 r)) ∧ (L 6 = true → u94 = (.tuple #[.slice AX m cX, .bool true])) ∧ (L 7 = true → u87 = (.tuple #[.slice AX m cX, .bool true])) ∧ (L 8 = true → u95 = (.slice AX m cX)) ∧ (L 9 = true → u96 = (.bool true)) ∧ (L 10 = true → u18 = (.slice AX m cX)) ∧ (L 11 = true → u19 = (.bool true)) ∧ Below W34.heap.size W34 w' ∧ (L 1 = true → ∃ q, u89 = .slice (some ⟨q, 0, none⟩) n n ∧ At w' q (n * 6) (flat P)) ∧ (L 6 = true → Ints W34.heap.size w' AX m f)) (by kernel_rfl) (by kernel_rfl) ?_ ?_ ?_
      · exact ⟨none, 0, _, _, _, _, _, _, _, _, _, _, _, _, rfl, (fun h => by cases h), (fun h => by cases h), (fun h => by cases h), (fun h => by cases h), (fun h => by cases h), (fun h => by cases h), (fun h => by cases h), (fun h => by cases h), (fun h => by cases h), (fun h => by cases h), (fun h => by cases h), ((Below.refl _ W34).drew), (fun h => by cases h), (fun h => by cases h)⟩
      · intro L az wz i hi hL hdep hcl hI
        obtain ⟨AX, cX, u18, u19, u87, u88, u89, u90, u91, u92, u93, u94, u95, u96, rfl, e0, e2, e3, e4, e5, e6, e7, e8, e9, e10, e11, hB0, hR1, hQ⟩ := hI
        have hi' : i < 12 := hi
        clear hi
        obtain rfl | rfl | rfl | rfl | rfl | rfl | rfl | rfl | rfl | rfl | rfl | rfl : i = 0 ∨ i = 1 ∨ i = 2 ∨ i = 3 ∨ i = 4 ∨ i = 5 ∨ i = 6 ∨ i = 7 ∨ i = 8 ∨ i = 9 ∨ i = 10 ∨ i = 11 := by omega
        · refine wpOp_want rfl rfl (Oper.wp_of_quiet (C := fun w' => w' = wz) (K := fun a' => a' = ⟨#[.slice A n c, .agg #[.int .i64 k, .int .i64 b], .int .i64 N, .int .i64 r, undef, .pointer (some ⟨w.heap.size, 0, none⟩), undef, undef, .bool false, .int .i64 (1048576 - (n : Int)), .slice AL4 m cL5, .bool true, .slice (some ⟨g11, 0, none⟩) n n, .slice AL18 m cL19, .bool true, .int .i64 (1 + 6 * (n : Int)), .int .i64 (1 + (m : Int)), .int .i64 (1 + (m : Int)), u18, u19, .slice A n c, .int .i64 1048576, .int .i64 (1048576 - (n : Int)), .int .i64 (1048576 - (n : Int)), .bool (decide (1048576 - (n : Int) < 0)), .tuple #[.slice AL4 m cL5, .bool true], .slice A n c, .slice (some ⟨g8, 0, none⟩) n n, .agg #[.int .i64 k, .int .i64 b], .agg #[.int .i64 k, .int .i64 b], .int .i64 N, .int .i64 r, .tuple #[.slice AL4 m cL5, .bool true], .slice AL4 m cL5, .bool true, .slice A n c, .slice (some ⟨g11, 0, none⟩) n n, .tuple #[.slice AL18 m cL19, .bool true], .slice (some ⟨g11, 0, none⟩) n n, .agg #[.int .i64 k, .int .i64 b], .agg #[.int .i64 k, .int .i64 b], .int .i64 N, .int .i64 r, .tuple #[.slice AL18 m cL19, .bool true], .slice AL18 m cL19, .bool true, .slice AL18 m cL19, .slice AL4 m cL5, .bool true, .bool false, .bool false, .bool true, .bool true, .bool false, .bool false, .slice (some ⟨g11, 0, none⟩) n n, .slice A n c, .slice (some ⟨g24, 0, none⟩) n n, .bool true, .bool false, .slice (some ⟨g11, 0, none⟩) n n, .int .i64 1, .int .i64 (1 + 6 * (n : Int)), .int .i64 (1 + 6 * (n : Int)), .bool false, .bool false, .slice AL18 m cL19, .slice AL4 m cL5, .bool true, .bool false, .bool false, .bool false, .bool true, .bool true, .bool false, .bool false, .slice AL18 m cL19, .int .i64 1, .int .i64 (1 + (m : Int)), .slice AL18 m cL19, .int .i64 1, .int .i64 (1 + (m : Int)), .int .i64 (1 + (m : Int)), .bool false, .int .i64 (1 + (m : Int)), .int .i64 (1 + (m : Int)), .bool false, u87, (.slice A n c), u89, u90, u91, u92, u93, u94, u95, u96, undef, undef, undef, undef, undef, undef, undef, undef, undef, undef, undef, undef, undef, undef, undef, undef, undef], []⟩) rfl ?_ ?_)
          · intro a' w' hC' hK
            subst hK
            subst hC'
            exact ⟨AX, cX, u18, u19, u87, (.slice A n c), u89, u90, u91, u92, u93, u94, u95, u96, by first | rfl | (simp; done) | (simp; exact ⟨rfl, rfl⟩), fun _ => rfl, e2, e3, e4, e5, e6, e7, e8, e9, e10, e11, hB0, hR1, hQ⟩
          · exact BigFrame.quiet_move _ rfl rfl
        · obtain rfl := e0 (hdep 0 (by kernel_rfl))
          have HB := Lib.hid hB0; clear hB0
          refine wpOp_want rfl rfl ?_
          go_simp
          refine (Ht0.out _ (H0.out.up (hB.trans (HB.out.mono hB.size)))).mono ?_
          rintro e w9 ⟨gr, rfl, _, hAr, hb⟩
          go_simp
          exact ⟨AX, cX, u18, u19, u87, (.slice A n c), (.slice (some ⟨gr, 0, none⟩) n n), u90, u91, u92, u93, u94, u95, u96, by first | rfl | (simp; done) | (simp; exact ⟨rfl, rfl⟩), fun _ => rfl, e2, e3, e4, e5, e6, e7, e8, e9, e10, e11, HB.out.trans (hb.mono HB.out.size), (fun _ => ⟨gr, rfl, hAr⟩), (fun h1 => (hQ h1).up hb)⟩
        · have hXX := hX1.up hB0
          have c0 := hXX.cell 0 (by omega)
          have c1 := hXX.cell 1 (by omega)
          have HB := Lib.hid hB0; clear hB0
          refine wpOp_want rfl rfl ?_
          go_simp
          exact ⟨AX, cX, u18, u19, u87, u88, u89, (.agg #[.int .i64 k, .int .i64 b]), u91, u92, u93, u94, u95, u96, by first | rfl | (simp; done) | (simp; exact ⟨rfl, rfl⟩), e0, fun _ => rfl, e3, e4, e5, e6, e7, e8, e9, e10, e11, HB.out, hR1, hQ⟩
        · obtain rfl := e2 (hdep 2 (by kernel_rfl))
          have HB := Lib.hid hB0; clear hB0
          refine wpOp_want rfl rfl ?_
          go_simp
          refine (Htg.out k b _).mono ?_
          rintro e w9 ⟨rfl, hb⟩
          go_simp
          exact ⟨AX, cX, u18, u19, u87, u88, u89, (.agg #[.int .i64 k, .int .i64 b]), (.agg #[.int .i64 k, .int .i64 b]), u92, u93, u94, u95, u96, by first | rfl | (simp; done) | (simp; exact ⟨rfl, rfl⟩), e0, fun _ => rfl, fun _ => rfl, e4, e5, e6, e7, e8, e9, e10, e11, HB.out.trans (hb.mono HB.out.size), (fun h1 => by obtain ⟨q, e, hA⟩ := hR1 h1 ; exact ⟨q, e, hA.up hb⟩), (fun h1 => (hQ h1).up hb)⟩
        · refine wpOp_want rfl rfl (Oper.wp_of_quiet (C := fun w' => w' = wz) (K := fun a' => a' = ⟨#[.slice A n c, .agg #[.int .i64 k, .int .i64 b], .int .i64 N, .int .i64 r, undef, .pointer (some ⟨w.heap.size, 0, none⟩), undef, undef, .bool false, .int .i64 (1048576 - (n : Int)), .slice AL4 m cL5, .bool true, .slice (some ⟨g11, 0, none⟩) n n, .slice AL18 m cL19, .bool true, .int .i64 (1 + 6 * (n : Int)), .int .i64 (1 + (m : Int)), .int .i64 (1 + (m : Int)), u18, u19, .slice A n c, .int .i64 1048576, .int .i64 (1048576 - (n : Int)), .int .i64 (1048576 - (n : Int)), .bool (decide (1048576 - (n : Int) < 0)), .tuple #[.slice AL4 m cL5, .bool true], .slice A n c, .slice (some ⟨g8, 0, none⟩) n n, .agg #[.int .i64 k, .int .i64 b], .agg #[.int .i64 k, .int .i64 b], .int .i64 N, .int .i64 r, .tuple #[.slice AL4 m cL5, .bool true], .slice AL4 m cL5, .bool true, .slice A n c, .slice (some ⟨g11, 0, none⟩) n n, .tuple #[.slice AL18 m cL19, .bool true], .slice (some ⟨g11, 0, none⟩) n n, .agg #[.int .i64 k, .int .i64 b], .agg #[.int .i64 k, .int .i64 b], .int .i64 N, .int .i64 r, .tuple #[.slice AL18 m cL19, .bool true], .slice AL18 m cL19, .bool true, .slice AL18 m cL19, .slice AL4 m cL5, .bool true, .bool false, .bool false, .bool true, .bool true, .bool false, .bool false, .slice (some ⟨g11, 0, none⟩) n n, .slice A n c, .slice (some ⟨g24, 0, none⟩) n n, .bool true, .bool false, .slice (some ⟨g11, 0, none⟩) n n, .int .i64 1, .int .i64 (1 + 6 * (n : Int)), .int .i64 (1 + 6 * (n : Int)), .bool false, .bool false, .slice AL18 m cL19, .slice AL4 m cL5, .bool true, .bool false, .bool false, .bool false, .bool true, .bool true, .bool false, .bool false, .slice AL18 m cL19, .int .i64 1, .int .i64 (1 + (m : Int)), .slice AL18 m cL19, .int .i64 1, .int .i64 (1 + (m : Int)), .int .i64 (1 + (m : Int)), .bool false, .int .i64 (1 + (m : Int)), .int .i64 (1 + (m : Int)), .bool false, u87, u88, u89, u90, u91, (.int .i64 N), u93, u94, u95, u96, undef, undef, undef, undef, undef, undef, undef, undef, undef, undef, undef, undef, undef, undef, undef, undef, undef], []⟩) rfl ?_ ?_)
          · intro a' w' hC' hK
            subst hK
            subst hC'
            exact ⟨AX, cX, u18, u19, u87, u88, u89, u90, u91, (.int .i64 N), u93, u94, u95, u96, by first | rfl | (simp; done) | (simp; exact ⟨rfl, rfl⟩), e0, e2, e3, fun _ => rfl, e5, e6, e7, e8, e9, e10, e11, hB0, hR1, hQ⟩
          · exact BigFrame.quiet_move _ rfl rfl
        · refine wpOp_want rfl rfl (Oper.wp_of_quiet (C := fun w' => w' = wz) (K := fun a' => a' = ⟨#[.slice A n c, .agg #[.int .i64 k, .int .i64 b], .int .i64 N, .int .i64 r, undef, .pointer (some ⟨w.heap.size, 0, none⟩), undef, undef, .bool false, .int .i64 (1048576 - (n : Int)), .slice AL4 m cL5, .bool true, .slice (some ⟨g11, 0, none⟩) n n, .slice AL18 m cL19, .bool true, .int .i64 (1 + 6 * (n : Int)), .int .i64 (1 + (m : Int)), .int .i64 (1 + (m : Int)), u18, u19, .slice A n c, .int .i64 1048576, .int .i64 (1048576 - (n : Int)), .int .i64 (1048576 - (n : Int)), .bool (decide (1048576 - (n : Int) < 0)), .tuple #[.slice AL4 m cL5, .bool true], .slice A n c, .slice (some ⟨g8, 0, none⟩) n n, .agg #[.int .i64 k, .int .i64 b], .agg #[.int .i64 k, .int .i64 b], .int .i64 N, .int .i64 r, .tuple #[.slice AL4 m cL5, .bool true], .slice AL4 m cL5, .bool true, .slice A n c, .slice (some ⟨g11, 0, none⟩) n n, .tuple #[.slice AL18 m cL19, .bool true], .slice (some ⟨g11, 0, none⟩) n n, .agg #[.int .i64 k, .int .i64 b], .agg #[.int .i64 k, .int .i64 b], .int .i64 N, .int .i64 r, .tuple #[.slice AL18 m cL19, .bool true], .slice AL18 m cL19, .bool true, .slice AL18 m cL19, .slice AL4 m cL5, .bool true, .bool false, .bool false, .bool true, .bool true, .bool false, .bool false, .slice (some ⟨g11, 0, none⟩) n n, .slice A n c, .slice (some ⟨g24, 0, none⟩) n n, .bool true, .bool false, .slice (some ⟨g11, 0, none⟩) n n, .int .i64 1, .int .i64 (1 + 6 * (n : Int)), .int .i64 (1 + 6 * (n : Int)), .bool false, .bool false, .slice AL18 m cL19, .slice AL4 m cL5, .bool true, .bool false, .bool false, .bool false, .bool true, .bool true, .bool false, .bool false, .slice AL18 m cL19, .int .i64 1, .int .i64 (1 + (m : Int)), .slice AL18 m cL19, .int .i64 1, .int .i64 (1 + (m : Int)), .int .i64 (1 + (m : Int)), .bool false, .int .i64 (1 + (m : Int)), .int .i64 (1 + (m : Int)), .bool false, u87, u88, u89, u90, u91, u92, (.int .i64 r), u94, u95, u96, undef, undef, undef, undef, undef, undef, undef, undef, undef, undef, undef, undef, undef, undef, undef, undef, undef], []⟩) rfl ?_ ?_)
          · intro a' w' hC' hK
            subst hK
            subst hC'
            exact ⟨AX, cX, u18, u19, u87, u88, u89, u90, u91, u92, (.int .i64 r), u94, u95, u96, by first | rfl | (simp; done) | (simp; exact ⟨rfl, rfl⟩), e0, e2, e3, e4, fun _ => rfl, e6, e7, e8, e9, e10, e11, hB0, hR1, hQ⟩
          · exact BigFrame.quiet_move _ rfl rfl
        · obtain rfl := e3 (hdep 3 (by kernel_rfl))
          obtain rfl := e4 (hdep 4 (by kernel_rfl))
          obtain rfl := e5 (hdep 5 (by kernel_rfl))
          obtain ⟨g1, rfl, hAr1⟩ := hR1 (hdep 1 (by kernel_rfl))
          have HB := Lib.hid hB0; clear hB0
          refine wpOp_want rfl rfl ?_
          go_simp
          refine (Hi.out _ _ _ (row_of_at hAr1)).mono ?_
          rintro e w9 ⟨AY, cY, rfl, hY, hb⟩
          go_simp
          exact ⟨AY, cY, u18, u19, u87, u88, (.slice (some ⟨g1, 0, none⟩) n n), u90, (.agg #[.int .i64 k, .int .i64 b]), (.int .i64 N), (.int .i64 r), (.tuple #[.slice AY m cY, .bool true]), u95, u96, by first | rfl | (simp; done) | (simp; exact ⟨rfl, rfl⟩), e0, e2, fun _ => rfl, fun _ => rfl, fun _ => rfl, fun _ => rfl, fun h => absurd (hcl 7 6 h (by kernel_rfl)) (by rw [hL]; decide), fun h => absurd (hcl 7 6 (hcl 8 7 h (by kernel_rfl)) (by kernel_rfl)) (by rw [hL]; decide), e9, fun h => absurd (hcl 7 6 (hcl 8 7 (hcl 10 8 h (by kernel_rfl)) (by kernel_rfl)) (by kernel_rfl)) (by rw [hL]; decide), e11, HB.out.trans (hb.mono HB.out.size), (fun h1 => by obtain ⟨q, e, hA⟩ := hR1 h1 ; exact ⟨q, e, hA.up hb⟩), (fun _ => hY.mono HB.out.size)⟩
        · obtain rfl := e6 (hdep 6 (by kernel_rfl))
          refine wpOp_want rfl rfl (Oper.wp_of_quiet (C := fun w' => w' = wz) (K := fun a' => a' = ⟨#[.slice A n c, .agg #[.int .i64 k, .int .i64 b], .int .i64 N, .int .i64 r, undef, .pointer (some ⟨w.heap.size, 0, none⟩), undef, undef, .bool false, .int .i64 (1048576 - (n : Int)), .slice AL4 m cL5, .bool true, .slice (some ⟨g11, 0, none⟩) n n, .slice AL18 m cL19, .bool true, .int .i64 (1 + 6 * (n : Int)), .int .i64 (1 + (m : Int)), .int .i64 (1 + (m : Int)), u18, u19, .slice A n c, .int .i64 1048576, .int .i64 (1048576 - (n : Int)), .int .i64 (1048576 - (n : Int)), .bool (decide (1048576 - (n : Int) < 0)), .tuple #[.slice AL4 m cL5, .bool true], .slice A n c, .slice (some ⟨g8, 0, none⟩) n n, .agg #[.int .i64 k, .int .i64 b], .agg #[.int .i64 k, .int .i64 b], .int .i64 N, .int .i64 r, .tuple #[.slice AL4 m cL5, .bool true], .slice AL4 m cL5, .bool true, .slice A n c, .slice (some ⟨g11, 0, none⟩) n n, .tuple #[.slice AL18 m cL19, .bool true], .slice (some ⟨g11, 0, none⟩) n n, .agg #[.int .i64 k, .int .i64 b], .agg #[.int .i64 k, .int .i64 b], .int .i64 N, .int .i64 r, .tuple #[.slice AL18 m cL19, .bool true], .slice AL18 m cL19, .bool true, .slice AL18 m cL19, .slice AL4 m cL5, .bool true, .bool false, .bool false, .bool true, .bool true, .bool false, .bool false, .slice (some ⟨g11, 0, none⟩) n n, .slice A n c, .slice (some ⟨g24, 0, none⟩) n n, .bool true, .bool false, .slice (some ⟨g11, 0, none⟩) n n, .int .i64 1, .int .i64 (1 + 6 * (n : Int)), .int .i64 (1 + 6 * (n : Int)), .bool false, .bool false, .slice AL18 m cL19, .slice AL4 m cL5, .bool true, .bool false, .bool false, .bool false, .bool true, .bool true, .bool false, .bool false, .slice AL18 m cL19, .int .i64 1, .int .i64 (1 + (m : Int)), .slice AL18 m cL19, .int .i64 1, .int .i64 (1 + (m : Int)), .int .i64 (1 + (m : Int)), .bool false, .int .i64 (1 + (m : Int)), .int .i64 (1 + (m : Int)), .bool false, (.tuple #[.slice AX m cX, .bool true]), u88, u89, u90, u91, u92, u93, (.tuple #[.slice AX m cX, .bool true]), u95, u96, undef, undef, undef, undef, undef, undef, undef, undef, undef, undef, undef, undef, undef, undef, undef, undef, undef], []⟩) rfl ?_ ?_)
          · intro a' w' hC' hK
            subst hK
            subst hC'
            exact ⟨AX, cX, u18, u19, (.tuple #[.slice AX m cX, .bool true]), u88, u89, u90, u91, u92, u93, (.tuple #[.slice AX m cX, .bool true]), u95, u96, by first | rfl | (simp; done) | (simp; exact ⟨rfl, rfl⟩), e0, e2, e3, e4, e5, fun _ => rfl, fun _ => rfl, e8, e9, e10, e11, hB0, hR1, hQ⟩
          · exact BigFrame.quiet_move _ rfl rfl
        · obtain rfl := e7 (hdep 7 (by kernel_rfl))
          refine wpOp_want rfl rfl (Oper.wp_of_quiet (C := fun w' => w' = wz) (K := fun a' => a' = ⟨#[.slice A n c, .agg #[.int .i64 k, .int .i64 b], .int .i64 N, .int .i64 r, undef, .pointer (some ⟨w.heap.size, 0, none⟩), undef, undef, .bool false, .int .i64 (1048576 - (n : Int)), .slice AL4 m cL5, .bool true, .slice (some ⟨g11, 0, none⟩) n n, .slice AL18 m cL19, .bool true, .int .i64 (1 + 6 * (n : Int)), .int .i64 (1 + (m : Int)), .int .i64 (1 + (m : Int)), u18, u19, .slice A n c, .int .i64 1048576, .int .i64 (1048576 - (n : Int)), .int .i64 (1048576 - (n : Int)), .bool (decide (1048576 - (n : Int) < 0)), .tuple #[.slice AL4 m cL5, .bool true], .slice A n c, .slice (some ⟨g8, 0, none⟩) n n, .agg #[.int .i64 k, .int .i64 b], .agg #[.int .i64 k, .int .i64 b], .int .i64 N, .int .i64 r, .tuple #[.slice AL4 m cL5, .bool true], .slice AL4 m cL5, .bool true, .slice A n c, .slice (some ⟨g11, 0, none⟩) n n, .tuple #[.slice AL18 m cL19, .bool true], .slice (some ⟨g11, 0, none⟩) n n, .agg #[.int .i64 k, .int .i64 b], .agg #[.int .i64 k, .int .i64 b], .int .i64 N, .int .i64 r, .tuple #[.slice AL18 m cL19, .bool true], .slice AL18 m cL19, .bool true, .slice AL18 m cL19, .slice AL4 m cL5, .bool true, .bool false, .bool false, .bool true, .bool true, .bool false, .bool false, .slice (some ⟨g11, 0, none⟩) n n, .slice A n c, .slice (some ⟨g24, 0, none⟩) n n, .bool true, .bool false, .slice (some ⟨g11, 0, none⟩) n n, .int .i64 1, .int .i64 (1 + 6 * (n : Int)), .int .i64 (1 + 6 * (n : Int)), .bool false, .bool false, .slice AL18 m cL19, .slice AL4 m cL5, .bool true, .bool false, .bool false, .bool false, .bool true, .bool true, .bool false, .bool false, .slice AL18 m cL19, .int .i64 1, .int .i64 (1 + (m : Int)), .slice AL18 m cL19, .int .i64 1, .int .i64 (1 + (m : Int)), .int .i64 (1 + (m : Int)), .bool false, .int .i64 (1 + (m : Int)), .int .i64 (1 + (m : Int)), .bool false, (.tuple #[.slice AX m cX, .bool true]), u88, u89, u90, u91, u92, u93, u94, (.slice AX m cX), u96, undef, undef, undef, undef, undef, undef, undef, undef, undef, undef, undef, undef, undef, undef, undef, undef, undef], []⟩) rfl ?_ ?_)
          · intro a' w' hC' hK
            subst hK
            subst hC'
            exact ⟨AX, cX, u18, u19, (.tuple #[.slice AX m cX, .bool true]), u88, u89, u90, u91, u92, u93, u94, (.slice AX m cX), u96, by first | rfl | (simp; done) | (simp; exact ⟨rfl, rfl⟩), e0, e2, e3, e4, e5, e6, fun _ => rfl, fun _ => rfl, e9, e10, e11, hB0, hR1, hQ⟩
          · exact ⟨(.slice AX m cX), fun w' hw' => ⟨rfl, rfl⟩, rfl⟩
        · obtain rfl := e7 (hdep 7 (by kernel_rfl))
          refine wpOp_want rfl rfl (Oper.wp_of_quiet (C := fun w' => w' = wz) (K := fun a' => a' = ⟨#[.slice A n c, .agg #[.int .i64 k, .int .i64 b], .int .i64 N, .int .i64 r, undef, .pointer (some ⟨w.heap.size, 0, none⟩), undef, undef, .bool false, .int .i64 (1048576 - (n : Int)), .slice AL4 m cL5, .bool true, .slice (some ⟨g11, 0, none⟩) n n, .slice AL18 m cL19, .bool true, .int .i64 (1 + 6 * (n : Int)), .int .i64 (1 + (m : Int)), .int .i64 (1 + (m : Int)), u18, u19, .slice A n c, .int .i64 1048576, .int .i64 (1048576 - (n : Int)), .int .i64 (1048576 - (n : Int)), .bool (decide (1048576 - (n : Int) < 0)), .tuple #[.slice AL4 m cL5, .bool true], .slice A n c, .slice (some ⟨g8, 0, none⟩) n n, .agg #[.int .i64 k, .int .i64 b], .agg #[.int .i64 k, .int .i64 b], .int .i64 N, .int .i64 r, .tuple #[.slice AL4 m cL5, .bool true], .slice AL4 m cL5, .bool true, .slice A n c, .slice (some ⟨g11, 0, none⟩) n n, .tuple #[.slice AL18 m cL19, .bool true], .slice (some ⟨g11, 0, none⟩) n n, .agg #[.int .i64 k, .int .i64 b], .agg #[.int .i64 k, .int .i64 b], .int .i64 N, .int .i64 r, .tuple #[.slice AL18 m cL19, .bool true], .slice AL18 m cL19, .bool true, .slice AL18 m cL19, .slice AL4 m cL5, .bool true, .bool false, .bool false, .bool true, .bool true, .bool false, .bool false, .slice (some ⟨g11, 0, none⟩) n n, .slice A n c, .slice (some ⟨g24, 0, none⟩) n n, .bool true, .bool false, .slice (some ⟨g11, 0, none⟩) n n, .int .i64 1, .int .i64 (1 + 6 * (n : Int)), .int .i64 (1 + 6 * (n : Int)), .bool false, .bool false, .slice AL18 m cL19, .slice AL4 m cL5, .bool true, .bool false, .bool false, .bool false, .bool true, .bool true, .bool false, .bool false, .slice AL18 m cL19, .int .i64 1, .int .i64 (1 + (m : Int)), .slice AL18 m cL19, .int .i64 1, .int .i64 (1 + (m : Int)), .int .i64 (1 + (m : Int)), .bool false, .int .i64 (1 + (m : Int)), .int .i64 (1 + (m : Int)), .bool false, (.tuple #[.slice AX m cX, .bool true]), u88, u89, u90, u91, u92, u93, u94, u95, (.bool true), undef, undef, undef, undef, undef, undef, undef, undef, undef, undef, undef, undef, undef, undef, undef, undef, undef], []⟩) rfl ?_ ?_)
          · intro a' w' hC' hK
            subst hK
            subst hC'
            exact ⟨AX, cX, u18, u19, (.tuple #[.slice AX m cX, .bool true]), u88, u89, u90, u91, u92, u93, u94, u95, (.bool true), by first | rfl | (simp; done) | (simp; exact ⟨rfl, rfl⟩), e0, e2, e3, e4, e5, e6, fun _ => rfl, e8, fun _ => rfl, e10, e11, hB0, hR1, hQ⟩
          · exact ⟨(.bool true), fun w' hw' => ⟨rfl, rfl⟩, rfl⟩
        · obtain rfl := e8 (hdep 8 (by kernel_rfl))
          refine wpOp_want rfl rfl (Oper.wp_of_quiet (C := fun w' => w' = wz) (K := fun a' => a' = ⟨#[.slice A n c, .agg #[.int .i64 k, .int .i64 b], .int .i64 N, .int .i64 r, undef, .pointer (some ⟨w.heap.size, 0, none⟩), undef, undef, .bool false, .int .i64 (1048576 - (n : Int)), .slice AL4 m cL5, .bool true, .slice (some ⟨g11, 0, none⟩) n n, .slice AL18 m cL19, .bool true, .int .i64 (1 + 6 * (n : Int)), .int .i64 (1 + (m : Int)), .int .i64 (1 + (m : Int)), (.slice AX m cX), u19, .slice A n c, .int .i64 1048576, .int .i64 (1048576 - (n : Int)), .int .i64 (1048576 - (n : Int)), .bool (decide (1048576 - (n : Int) < 0)), .tuple #[.slice AL4 m cL5, .bool true], .slice A n c, .slice (some ⟨g8, 0, none⟩) n n, .agg #[.int .i64 k, .int .i64 b], .agg #[.int .i64 k, .int .i64 b], .int .i64 N, .int .i64 r, .tuple #[.slice AL4 m cL5, .bool true], .slice AL4 m cL5, .bool true, .slice A n c, .slice (some ⟨g11, 0, none⟩) n n, .tuple #[.slice AL18 m cL19, .bool true], .slice (some ⟨g11, 0, none⟩) n n, .agg #[.int .i64 k, .int .i64 b], .agg #[.int .i64 k, .int .i64 b], .int .i64 N, .int .i64 r, .tuple #[.slice AL18 m cL19, .bool true], .slice AL18 m cL19, .bool true, .slice AL18 m cL19, .slice AL4 m cL5, .bool true, .bool false, .bool false, .bool true, .bool true, .bool false, .bool false, .slice (some ⟨g11, 0, none⟩) n n, .slice A n c, .slice (some ⟨g24, 0, none⟩) n n, .bool true, .bool false, .slice (some ⟨g11, 0, none⟩) n n, .int .i64 1, .int .i64 (1 + 6 * (n : Int)), .int .i64 (1 + 6 * (n : Int)), .bool false, .bool false, .slice AL18 m cL19, .slice AL4 m cL5, .bool true, .bool false, .bool false, .bool false, .bool true, .bool true, .bool false, .bool false, .slice AL18 m cL19, .int .i64 1, .int .i64 (1 + (m : Int)), .slice AL18 m cL19, .int .i64 1, .int .i64 (1 + (m : Int)), .int .i64 (1 + (m : Int)), .bool false, .int .i64 (1 + (m : Int)), .int .i64 (1 + (m : Int)), .bool false, u87, u88, u89, u90, u91, u92, u93, u94, (.slice AX m cX), u96, undef, undef, undef, undef, undef, undef, undef, undef, undef, undef, undef, undef, undef, undef, undef, undef, undef], []⟩) rfl ?_ ?_)
          · intro a' w' hC' hK
            subst hK
            subst hC'
            exact ⟨AX, cX, (.slice AX m cX), u19, u87, u88, u89, u90, u91, u92, u93, u94, (.slice AX m cX), u96, by first | rfl | (simp; done) | (simp; exact ⟨rfl, rfl⟩), e0, e2, e3, e4, e5, e6, e7, fun _ => rfl, e9, fun _ => rfl, e11, hB0, hR1, hQ⟩
          · exact BigFrame.quiet_assign _ rfl rfl
        · obtain rfl := e9 (hdep 9 (by kernel_rfl))
          refine wpOp_want rfl rfl (Oper.wp_of_quiet (C := fun w' => w' = wz) (K := fun a' => a' = ⟨#[.slice A n c, .agg #[.int .i64 k, .int .i64 b], .int .i64 N, .int .i64 r, undef, .pointer (some ⟨w.heap.size, 0, none⟩), undef, undef, .bool false, .int .i64 (1048576 - (n : Int)), .slice AL4 m cL5, .bool true, .slice (some ⟨g11, 0, none⟩) n n, .slice AL18 m cL19, .bool true, .int .i64 (1 + 6 * (n : Int)), .int .i64 (1 + (m : Int)), .int .i64 (1 + (m : Int)), u18, (.bool true), .slice A n c, .int .i64 1048576, .int .i64 (1048576 - (n : Int)), .int .i64 (1048576 - (n : Int)), .bool (decide (1048576 - (n : Int) < 0)), .tuple #[.slice AL4 m cL5, .bool true], .slice A n c, .slice (some ⟨g8, 0, none⟩) n n, .agg #[.int .i64 k, .int .i64 b], .agg #[.int .i64 k, .int .i64 b], .int .i64 N, .int .i64 r, .tuple #[.slice AL4 m cL5, .bool true], .slice AL4 m cL5, .bool true, .slice A n c, .slice (some ⟨g11, 0, none⟩) n n, .tuple #[.slice AL18 m cL19, .bool true], .slice (some ⟨g11, 0, none⟩) n n, .agg #[.int .i64 k, .int .i64 b], .agg #[.int .i64 k, .int .i64 b], .int .i64 N, .int .i64 r, .tuple #[.slice AL18 m cL19, .bool true], .slice AL18 m cL19, .bool true, .slice AL18 m cL19, .slice AL4 m cL5, .bool true, .bool false, .bool false, .bool true, .bool true, .bool false, .bool false, .slice (some ⟨g11, 0, none⟩) n n, .slice A n c, .slice (some ⟨g24, 0, none⟩) n n, .bool true, .bool false, .slice (some ⟨g11, 0, none⟩) n n, .int .i64 1, .int .i64 (1 + 6 * (n : Int)), .int .i64 (1 + 6 * (n : Int)), .bool false, .bool false, .slice AL18 m cL19, .slice AL4 m cL5, .bool true, .bool false, .bool false, .bool false, .bool true, .bool true, .bool false, .bool false, .slice AL18 m cL19, .int .i64 1, .int .i64 (1 + (m : Int)), .slice AL18 m cL19, .int .i64 1, .int .i64 (1 + (m : Int)), .int .i64 (1 + (m : Int)), .bool false, .int .i64 (1 + (m : Int)), .int .i64 (1 + (m : Int)), .bool false, u87, u88, u89, u90, u91, u92, u93, u94, u95, (.bool true), undef, undef, undef, undef, undef, undef, undef, undef, undef, undef, undef, undef, undef, undef, undef, undef, undef], []⟩) rfl ?_ ?_)
          · intro a' w' hC' hK
            subst hK
            subst hC'
            exact ⟨AX, cX, u18, (.bool true), u87, u88, u89, u90, u91, u92, u93, u94, u95, (.bool true), by first | rfl | (simp; done) | (simp; exact ⟨rfl, rfl⟩), e0, e2, e3, e4, e5, e6, e7, e8, fun _ => rfl, e10, fun _ => rfl, hB0, hR1, hQ⟩
          · exact BigFrame.quiet_assign _ rfl rfl
      intro L az wz hL hcl hI
      obtain ⟨AL35, cL36, u18, u19, u87, u88, u89, u90, u91, u92, u93, u94, u95, u96, rfl, e0, e2, e3, e4, e5, e6, e7, e8, e9, e10, e11, hB0, hR1, hQ⟩ := hI
      obtain rfl := e0 (hL 0 (by decide))
      obtain rfl := e2 (hL 2 (by decide))
      obtain rfl := e3 (hL 3 (by decide))
      obtain rfl := e4 (hL 4 (by decide))
      obtain rfl := e5 (hL 5 (by decide))
      obtain rfl := e6 (hL 6 (by decide))
      obtain rfl := e7 (hL 7 (by decide))
      obtain rfl := e8 (hL 8 (by decide))
      obtain rfl := e9 (hL 9 (by decide))
      obtain rfl := e10 (hL 10 (by decide))
      obtain rfl := e11 (hL 11 (by decide))
      have hL37 := hQ (hL 6 (by decide))
      clear hQ
      obtain ⟨g39, rfl, hA40⟩ := hR1 (hL 1 (by decide))
      clear hcl hL
      have hB := hB.trans (hB0.mono hB.size)
      have hD := hD.trans (hB0.mono hD.size)
      have hX1 := hX1.up hB0
      have hL32 := hL32.up hB0
      clear hB0
      obtain ⟨w38, hW⟩ : ∃ W, W = wz := ⟨_, rfl⟩
      rw [← hW] at hX1 hL32 hL37 hB hD ⊢
      clear hW
      go_wp2_with fail
      refine (He.out _ _ _ _ _ _ _ hL37 (hL6.up hD)).mono ?_
      rintro e w41 ⟨rfl, hb⟩
      have hB := nx hB hb
      have hD := nx hD hb
      have hX1 := hX1.up hb
      have hL32 := hL32.up hb
      have hL37 := hL37.up hb
      clear hb
      go_wp2_with fail
      refine (Hhi.out _ _ _ _ hL32).mono ?_
      rintro e w42 ⟨rfl, hb⟩
      have hB := nx hB hb
      have hD := nx hD hb
      have hX1 := hX1.up hb
      have hL32 := hL32.up hb
      have hL37 := hL37.up hb
      clear hb
      go_wp2_with fail
      go_ret
      exact ⟨rfl, hB⟩
  · rw [if_neg hbig] at hsz
    have Hsz := Lib.hid hsz; clear hsz
    clear h0 hbig hc0 hm0 hn
    go_enter Try.func7, Try.ntmps7
    go_wp2_with fail
    refine (Hsz.out _).mono ?_
    rintro e w0 ⟨rfl, hw0⟩
    have hw0 := hw0.symm
    subst hw0
    go_wp2_with fail
    go_ret
    exact ⟨rfl, na (n0 w) _⟩

theorem laidOut : laidOutB Try.prog = true := by kernel_rfl
set_option maxRecDepth 100000 in
/-- What the walk gives, for every argument. -/
theorem contract (H : Type) (enc : TypeId × Value → H) (W : World) (base : Nat) (args : Array Value) (ds gs : List (DataW H)) (before : List MemPlace)
    (hval : ∀ (j : Nat) t v, Try.f7.params[j]? = some t → args[j]? = some v → Value.okWide Try.prog W .any base t v)
    (hW : DataW.Whole enc Try.prog Try.f7.params.toList Rows.fnExactBestSetsSpec.vars false W args.toList ds gs before) :
    Calls Try.prog 7 args W fun e W' => ∃ v, e = .returned v ∧ Rows.fnExactBestSetsSpec.post enc Try.prog Try.f7 false true false false W args v W' := by
  have hW' := hW
  obtain ⟨p, q, hA0, hV, rfl, hfz, hnd⟩ := hW
  have hA : DataW.TrodAll enc Try.prog W 0 (fun _ => true) true Try.f7.params.toList args.toList ds p := hA0
  rw [Try.params7] at hA hval
  obtain ⟨v0, vs0, d0, ds0, p0, q0, hargs, rfl, rfl, h0, r0⟩ := trodAll_cons hA
  obtain ⟨v1, vs1, d1, ds1, p1, q1, rfl, rfl, rfl, h1, r1⟩ := trodAll_cons r0
  obtain ⟨v2, vs2, d2, ds2, p2, q2, rfl, rfl, rfl, h2, r2⟩ := trodAll_cons r1
  obtain ⟨v3, vs3, d3, ds3, p3, q3, rfl, rfl, rfl, h3, r3⟩ := trodAll_cons r2
  obtain ⟨rfl, rfl, rfl⟩ := trodAll_nil r3
  obtain rfl : args = #[v0, v1, v2, v3] := by cases args; simp_all
  obtain ⟨rfl, rfl⟩ := trodVars_none hV
  obtain ⟨A0, n0, c0, rfl⟩ := okWide_slice Try.underlying34 (hval 0 34 v0 rfl rfl)
  have k0 := h0
  have lt0 : ∀ x ∈ p0, x.block < W.heap.size := fun x hx => by have := hW'.lt x (by simp [hx]); simpa using this
  obtain ⟨fu0, hf0⟩ := h0
  obtain ⟨a0, ht0, hc0, hm0, w0⟩ := OpenD.dice_of hf0 lt0
  obtain ⟨a1, b1, rfl, w1, u1⟩ := OpenG.goal_of (hval 1 23 v1 rfl rfl) h1
  have k1 := h1
  have lt1 : ∀ x ∈ p1, x.block < W.heap.size := fun x hx => by have := hW'.lt x (by simp [hx]); simpa using this
  obtain ⟨a2, rfl, rfl, rfl, wf2⟩ := open_int Try.underlying3 (hval 2 3 v2 rfl rfl) h2
  have w2 : -9223372036854775808 ≤ a2 ∧ a2 ≤ 9223372036854775807 := by simpa [Lit.wf, IntKind.min, IntKind.max, IntKind.bits, IntKind.signed] using wf2
  obtain ⟨a3, rfl, rfl, rfl, wf3⟩ := open_int Try.underlying3 (hval 3 3 v3 rfl rfl) h3
  have w3 : -9223372036854775808 ≤ a3 ∧ a3 ≤ 9223372036854775807 := by simpa [Lit.wf, IntKind.min, IntKind.max, IntKind.bits, IntKind.signed] using wf3
  clear hA0
  simp only [List.append_nil] at hW'
  refine (law_any A0 n0 c0 a0 a1 b1 a2 a3 W ht0 hc0 hm0).mono fun e W' ⟨he, hg⟩ => ?_
  subst he
  exact ⟨_, rfl, _, _, _, [], (p0 ++ (p1 ++ ([] ++ ([] ++ [])))), [], hW', trodAll_cons_mk (shut_bool Try.underlying4 _) trodAll_mk0, trodAll_cons_mk (Below.trod laidOut (by kernel_rfl) (of_decide_eq_true (by kernel_rfl)) k0 hg lt0) (trodAll_cons_mk (Below.trod laidOut (by kernel_rfl) (of_decide_eq_true (by kernel_rfl)) k1 hg lt1) (trodAll_cons_mk (shut_int Try.underlying3 wf2) (trodAll_cons_mk (shut_int Try.underlying3 wf3) trodAll_mk0))), rfl, hg.frame _, fun h => by cases h⟩

theorem own : ownKnob Try.prog.godebug = none := by kernel_rfl

set_option maxRecDepth 100000 in
theorem lifted (os : Os) (started : os.Started) (H : Type) (enc : TypeId × Value → H) :
    ReturnsInHanded {} Try.checked os 7 .any (Rows.fnExactBestSetsSpec.pre6 enc Try.prog Try.f7 Rows.fnExactBestSetsRow.domain false) (Rows.fnExactBestSetsSpec.post enc Try.prog Try.f7 false true false false) := by
  refine returnsInHanded_of_change (C := Try.checked) own started (by kernel_rfl) Try.func7
    (ChangeSpec.witness6 (enc := enc) (C := Try.checked) false ⟨#[], #[.slice none 0 0, .agg #[.int .i64 0, .int .i64 0], .int .i64 0, .int .i64 0], []⟩ 8 (by kernel_rfl) (by kernel_rfl) (by kernel_rfl) (by kernel_rfl)) ?_
  intro W base args ds gs before hval hW _ _
  exact contract H enc W base args ds gs before hval hW

theorem holds : Rows.FnExactBestSetsSaid :=
  OpenClaim.holds_of_wide 7 Try.f7 rfl rfl rfl rfl rfl rfl rfl ⟨rfl, rfl, rfl, rfl, rfl⟩ rfl rfl rfl rfl rfl (by kernel_rfl) Try.func7 (by kernel_rfl)
    (of_decide_eq_true (by kernel_rfl)) (by unfold Func.isWrapper; rw [if_neg (by decide +kernel)]; exact ⟨rfl, rfl⟩)
    (fun os started H enc _ => lifted os started H enc)

end BestSetsP
end Go.Proofs.Ytppaegibhikjnaa
