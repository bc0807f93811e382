/-
  FnExactValueAhead: for every list of arrays of six numbers, every goal and every number the law returns true, and all read afterwards as they read before. No condition.
-/
import Derived.Test.YtppaegibhikjnaaRows
import Derived.Test.YtppaegibhikjnaaArr
import Derived.Test.YtppaegibhikjnaaAnyR
import Derived.Test.YtppaegibhikjnaaDieW
import Derived.Test.YtppaegibhikjnaaFracW
import Derived.Test.YtppaegibhikjnaaSortW
import Derived.Test.YtppaegibhikjnaaDicesW
import Derived.Test.YtppaegibhikjnaaPoolW
import Derived.Test.YtppaegibhikjnaaAll6
import Derived.Test.YtppaegibhikjnaaIntsW
import Derived.Test.YtppaegibhikjnaaRollN
import Derived.Test.YtppaegibhikjnaaGoalW
import Derived.Test.YtppaegibhikjnaaOpenG
import Derived.Test.YtppaegibhikjnaaPairA
import Derived.Test.YtppaegibhikjnaaCutW
import Derived.Test.YtppaegibhikjnaaValM
import Derived.Test.YtppaegibhikjnaaAheadM
import Derived.Test.YtppaegibhikjnaaAheadI
import Derived.Test.YtppaegibhikjnaaAheadS
import Derived.Test.YtppaegibhikjnaaOpenD
import Derived.WalkKit
import Derived.WalkLawsBesides
import Derived.WalkSpells
import Derived.ProofKit
import Derived.OpenShut
import Derived.Deep.RegionWith
import Derived.Deep.QuietTactic
import Derived.BigQuiet
namespace Go.Proofs.Ytppaegibhikjnaa
open Go.ChangeShapes Go.WideShapes Go.ChangeAt Go.RowKit
open Go.ChangeMaps (open_string shut_string)

namespace AheadP
open Dice Arr FracW OpenD OpenG GoalW AnyR PairA DicesW PoolW CutW ValM AheadM AheadI AheadS DieW SortW GameW

theorem At.newv (x y : Int) (w : World) : At (w.alloc (.cells #[.int .i64 x, .int .i64 y] 36)) w.heap.size 2 (fr x y) :=
  At.new w _ _ 2 _ fun k hk => by
    obtain rfl | rfl : k = 0 ∨ k = 1 := by omega
    all_goals rfl
set_option maxRecDepth 20000 in
set_option maxHeartbeats 8000000 in
theorem law_any (A : Option Addr) (n c : Nat) (P : Nat → Nat → Int) (k b : Int) (r : Int) (w : World) (h0 : Row w A n P) (hc0 : n ≤ c) (hm0 : c ≤ maxLen) :
    Calls Try.prog 8 #[.slice A n c, v2 k b, .int .i64 r] w fun e w' => e = .returned (.bool true) ∧ Below w.heap.size w w' := by
  have hn : n ≤ maxLen := Nat.le_trans hc0 hm0
  have hsz := fun w => sz_any A n c w hn
  by_cases hbig : n ≤ 1048576
  · rw [if_pos hbig] at hsz
    have Hsz := Lib.hid hsz; clear hsz
    have Ht0 := Lib.hid (fun w h => toS_any A n c P w h hbig)
    have HqS0 := Lib.hid (fun A B c c' w h h' => eqS_any A B n c c' P w h h' hn)
    have H0 := Lib.hid h0; clear h0
    have Htg := Lib.hid toGoal_any
    have hs := fun A c w h => specAhead_any A n c P k b r w h hn
    have hi := fun A c w h => implAhead_any A n c P k b r w h hn
    obtain ⟨x, y, ho⟩ := outA_form n P k b r
    rw [ho] at hs hi
    clear ho
    generalize gameOk n P k b r 0 = z at hs hi
    have Hs := Lib.hid hs; clear hs
    have Hi := Lib.hid hi; clear hi
    have Hq0 := Lib.hid (fun w => eqA2_any x y w)
    have hB := n0 w
    clear hc0 hm0 hn
    go_enter Try.func8, Try.ntmps8
    have hX1 := (At.newGb w k b 23 (p := w.heap.size) rfl)
    have hB := na hB (.cells #[.int .i64 k, .int .i64 b] 23)
    go_wp2_with fail
    refine (Hsz.out _).mono ?_
    rintro e w2 ⟨rfl, hw0⟩
    have hw0 := hw0.symm
    subst hw0
    go_wp2_with fail
    obtain ⟨W3, hW⟩ : ∃ W, W = (w.alloc (.cells #[.int .i64 k, .int .i64 b] 23)) := ⟨_, rfl⟩
    rw [← hW] at hX1 hB ⊢
    clear hW
    refine wp_region_inc (I := fun L az w' => ∃ u8 u9 u18 u19 u20 u21 u22 u23 u24 u25 u26 : Value, az = ⟨#[.slice A n c, .agg #[.int .i64 k, .int .i64 b], .int .i64 r, undef, .pointer (some ⟨w.heap.size, 0, none⟩), undef, .bool false, .int .i64 (1048576 - (n : Int)), u8, u9, undef, undef, undef, .slice A n c, .int .i64 1048576, .int .i64 (1048576 - (n : Int)), .int .i64 (1048576 - (n : Int)), .bool (decide (1048576 - (n : Int) < 0)), u18, u19, u20, u21, u22, u23, u24, u25, u26, undef, undef, undef, undef, undef, undef, undef, undef, undef, undef, undef, undef, undef, undef, undef, undef, undef, undef, undef, undef, undef, undef, undef, undef], []⟩ ∧ (L 0 = true → u19 = (.slice A n c)) ∧ (L 2 = true → u21 = (.agg #[.int .i64 k, .int .i64 b])) ∧ (L 3 = true → u22 = (.agg #[.int .i64 k, .int .i64 b])) ∧ (L 4 = true → u23 = (.int .i64 r)) ∧ (L 5 = true → u24 = (.tuple #[.agg #[.int .i64 x, .int .i64 y], .bool z])) ∧ (L 6 = true → u18 = (.tuple #[.agg #[.int .i64 x, .int .i64 y], .bool z])) ∧ (L 7 = true → u25 = (.agg #[.int .i64 x, .int .i64 y])) ∧ (L 8 = true → u26 = (.bool z)) ∧ (L 11 = true → u9 = (.bool z)) ∧ Below W3.heap.size W3 w' ∧ (L 1 = true → L 10 = false → ∃ q, u20 = .slice (some ⟨q, 0, none⟩) n n ∧ At w' q (n * 6) (flat P)) ∧ (L 9 = true → ∃ q, u8 = .pointer (some ⟨q, 0, none⟩) ∧ W3.heap.size ≤ q ∧ At w' q 2 (fun k => if L 10 = true then (fr x y) k else 0))) (by kernel_rfl) (by kernel_rfl) ?_ ?_ ?_
    · exact ⟨_, _, _, _, _, _, _, _, _, _, _, rfl, (fun h => by cases h), (fun h => by cases h), (fun h => by cases h), (fun h => by cases h), (fun h => by cases h), (fun h => by cases h), (fun h => by cases h), (fun h => by cases h), (fun h => by cases h), ((Below.refl _ W3).drew), (fun h => by cases h), (fun h => by cases h)⟩
    · intro L az wz i hi hL hdep hcl hI
      obtain ⟨u8, u9, u18, u19, u20, u21, u22, u23, u24, u25, u26, rfl, e0, e2, e3, e4, e5, e6, e7, e8, e11, hB0, hR1, hA0⟩ := hI
      have hi' : i < 12 := hi
      clear hi
      obtain rfl | rfl | rfl | rfl | rfl | rfl | rfl | rfl | rfl | rfl | rfl | rfl : i = 0 ∨ i = 1 ∨ i = 2 ∨ i = 3 ∨ i = 4 ∨ i = 5 ∨ i = 6 ∨ i = 7 ∨ i = 8 ∨ i = 9 ∨ i = 10 ∨ i = 11 := by omega
      · refine wpOp_want rfl rfl (Oper.wp_of_quiet (C := fun w' => w' = wz) (K := fun a' => a' = ⟨#[.slice A n c, .agg #[.int .i64 k, .int .i64 b], .int .i64 r, undef, .pointer (some ⟨w.heap.size, 0, none⟩), undef, .bool false, .int .i64 (1048576 - (n : Int)), u8, u9, undef, undef, undef, .slice A n c, .int .i64 1048576, .int .i64 (1048576 - (n : Int)), .int .i64 (1048576 - (n : Int)), .bool (decide (1048576 - (n : Int) < 0)), u18, (.slice A n c), u20, u21, u22, u23, u24, u25, u26, undef, undef, undef, undef, undef, undef, undef, undef, undef, undef, undef, undef, undef, undef, undef, undef, undef, undef, undef, undef, undef, undef, undef, undef], []⟩) rfl ?_ ?_)
        · intro a' w' hC' hK
          subst hK
          subst hC'
          exact ⟨u8, u9, u18, (.slice A n c), u20, u21, u22, u23, u24, u25, u26, by first | rfl | (simp; done) | (simp; exact ⟨rfl, rfl⟩), fun _ => rfl, e2, e3, e4, e5, e6, e7, e8, e11, hB0, hR1, hA0⟩
        · exact BigFrame.quiet_move _ rfl rfl
      · obtain rfl := e0 (hdep 0 (by kernel_rfl))
        have HB := Lib.hid hB0; clear hB0
        refine wpOp_want rfl rfl ?_
        go_simp
        refine (Ht0.out _ (H0.out.up (hB.trans (HB.out.mono hB.size)))).mono ?_
        rintro e w9 ⟨gr, rfl, _, hAr, hb⟩
        go_simp
        exact ⟨u8, u9, u18, (.slice A n c), (.slice (some ⟨gr, 0, none⟩) n n), u21, u22, u23, u24, u25, u26, by first | rfl | (simp; done) | (simp; exact ⟨rfl, rfl⟩), fun _ => rfl, e2, e3, e4, e5, e6, e7, e8, e11, HB.out.trans (hb.mono HB.out.size), (fun _ _ => ⟨gr, rfl, hAr⟩), (fun h1 => by obtain ⟨q, e, hq, hA⟩ := hA0 h1; exact ⟨q, e, hq, hA.up hb⟩)⟩
      · have hXX := hX1.up hB0
        have c0 := hXX.cell 0 (by omega)
        have c1 := hXX.cell 1 (by omega)
        have HB := Lib.hid hB0; clear hB0
        refine wpOp_want rfl rfl ?_
        go_simp
        exact ⟨u8, u9, u18, u19, u20, (.agg #[.int .i64 k, .int .i64 b]), u22, u23, u24, u25, u26, by first | rfl | (simp; done) | (simp; exact ⟨rfl, rfl⟩), e0, fun _ => rfl, e3, e4, e5, e6, e7, e8, e11, HB.out, hR1, hA0⟩
      · obtain rfl := e2 (hdep 2 (by kernel_rfl))
        have HB := Lib.hid hB0; clear hB0
        refine wpOp_want rfl rfl ?_
        go_simp
        refine (Htg.out k b _).mono ?_
        rintro e w9 ⟨rfl, hb⟩
        go_simp
        exact ⟨u8, u9, u18, u19, u20, (.agg #[.int .i64 k, .int .i64 b]), (.agg #[.int .i64 k, .int .i64 b]), u23, u24, u25, u26, by first | rfl | (simp; done) | (simp; exact ⟨rfl, rfl⟩), e0, fun _ => rfl, fun _ => rfl, e4, e5, e6, e7, e8, e11, HB.out.trans (hb.mono HB.out.size), (fun h1 h9 => by obtain ⟨q, e, hA⟩ := hR1 h1 h9; exact ⟨q, e, hA.up hb⟩), (fun h1 => by obtain ⟨q, e, hq, hA⟩ := hA0 h1; exact ⟨q, e, hq, hA.up hb⟩)⟩
      · refine wpOp_want rfl rfl (Oper.wp_of_quiet (C := fun w' => w' = wz) (K := fun a' => a' = ⟨#[.slice A n c, .agg #[.int .i64 k, .int .i64 b], .int .i64 r, undef, .pointer (some ⟨w.heap.size, 0, none⟩), undef, .bool false, .int .i64 (1048576 - (n : Int)), u8, u9, undef, undef, undef, .slice A n c, .int .i64 1048576, .int .i64 (1048576 - (n : Int)), .int .i64 (1048576 - (n : Int)), .bool (decide (1048576 - (n : Int) < 0)), u18, u19, u20, u21, u22, (.int .i64 r), u24, u25, u26, undef, undef, undef, undef, undef, undef, undef, undef, undef, undef, undef, undef, undef, undef, undef, undef, undef, undef, undef, undef, undef, undef, undef, undef], []⟩) rfl ?_ ?_)
        · intro a' w' hC' hK
          subst hK
          subst hC'
          exact ⟨u8, u9, u18, u19, u20, u21, u22, (.int .i64 r), u24, u25, u26, by first | rfl | (simp; done) | (simp; exact ⟨rfl, rfl⟩), e0, e2, e3, fun _ => rfl, e5, e6, e7, e8, e11, hB0, hR1, hA0⟩
        · exact BigFrame.quiet_move _ rfl rfl
      · obtain rfl := e3 (hdep 3 (by kernel_rfl))
        obtain rfl := e4 (hdep 4 (by kernel_rfl))
        have h9f : L 10 = false := by cases h : L 10; rfl; exact absurd (hcl 6 5 (hcl 7 6 (hcl 10 7 h (by kernel_rfl)) (by kernel_rfl)) (by kernel_rfl)) (by rw [hL]; decide)
        obtain ⟨g1, rfl, hAr1⟩ := hR1 (hdep 1 (by kernel_rfl)) h9f
        have HB := Lib.hid hB0; clear hB0
        refine wpOp_want rfl rfl ?_
        go_simp
        refine (Hs.out _ _ _ (row_of_at hAr1)).mono ?_
        rintro e w9 ⟨rfl, hb⟩
        go_simp
        exact ⟨u8, u9, u18, u19, (.slice (some ⟨g1, 0, none⟩) n n), u21, (.agg #[.int .i64 k, .int .i64 b]), (.int .i64 r), (.tuple #[.agg #[.int .i64 x, .int .i64 y], .bool z]), u25, u26, by first | rfl | (simp; done) | (simp; exact ⟨rfl, rfl⟩), e0, e2, fun _ => rfl, fun _ => rfl, fun _ => rfl, e6, e7, e8, e11, HB.out.trans (hb.mono HB.out.size), (fun h1 h9 => by obtain ⟨q, e, hA⟩ := hR1 h1 h9; exact ⟨q, e, hA.up hb⟩), (fun h1 => by obtain ⟨q, e, hq, hA⟩ := hA0 h1; exact ⟨q, e, hq, hA.up hb⟩)⟩
      · obtain rfl := e5 (hdep 5 (by kernel_rfl))
        refine wpOp_want rfl rfl (Oper.wp_of_quiet (C := fun w' => w' = wz) (K := fun a' => a' = ⟨#[.slice A n c, .agg #[.int .i64 k, .int .i64 b], .int .i64 r, undef, .pointer (some ⟨w.heap.size, 0, none⟩), undef, .bool false, .int .i64 (1048576 - (n : Int)), u8, u9, undef, undef, undef, .slice A n c, .int .i64 1048576, .int .i64 (1048576 - (n : Int)), .int .i64 (1048576 - (n : Int)), .bool (decide (1048576 - (n : Int) < 0)), (.tuple #[.agg #[.int .i64 x, .int .i64 y], .bool z]), u19, u20, u21, u22, u23, (.tuple #[.agg #[.int .i64 x, .int .i64 y], .bool z]), u25, u26, undef, undef, undef, undef, undef, undef, undef, undef, undef, undef, undef, undef, undef, undef, undef, undef, undef, undef, undef, undef, undef, undef, undef, undef], []⟩) rfl ?_ ?_)
        · intro a' w' hC' hK
          subst hK
          subst hC'
          exact ⟨u8, u9, (.tuple #[.agg #[.int .i64 x, .int .i64 y], .bool z]), u19, u20, u21, u22, u23, (.tuple #[.agg #[.int .i64 x, .int .i64 y], .bool z]), u25, u26, by first | rfl | (simp; done) | (simp; exact ⟨rfl, rfl⟩), e0, e2, e3, e4, fun _ => rfl, fun _ => rfl, e7, e8, e11, hB0, hR1, hA0⟩
        · exact BigFrame.quiet_move _ rfl rfl
      · obtain rfl := e6 (hdep 6 (by kernel_rfl))
        refine wpOp_want rfl rfl (Oper.wp_of_quiet (C := fun w' => w' = wz) (K := fun a' => a' = ⟨#[.slice A n c, .agg #[.int .i64 k, .int .i64 b], .int .i64 r, undef, .pointer (some ⟨w.heap.size, 0, none⟩), undef, .bool false, .int .i64 (1048576 - (n : Int)), u8, u9, undef, undef, undef, .slice A n c, .int .i64 1048576, .int .i64 (1048576 - (n : Int)), .int .i64 (1048576 - (n : Int)), .bool (decide (1048576 - (n : Int) < 0)), (.tuple #[.agg #[.int .i64 x, .int .i64 y], .bool z]), u19, u20, u21, u22, u23, u24, (.agg #[.int .i64 x, .int .i64 y]), u26, undef, undef, undef, undef, undef, undef, undef, undef, undef, undef, undef, undef, undef, undef, undef, undef, undef, undef, undef, undef, undef, undef, undef, undef], []⟩) rfl ?_ ?_)
        · intro a' w' hC' hK
          subst hK
          subst hC'
          exact ⟨u8, u9, (.tuple #[.agg #[.int .i64 x, .int .i64 y], .bool z]), u19, u20, u21, u22, u23, u24, (.agg #[.int .i64 x, .int .i64 y]), u26, by first | rfl | (simp; done) | (simp; exact ⟨rfl, rfl⟩), e0, e2, e3, e4, e5, fun _ => rfl, fun _ => rfl, e8, e11, hB0, hR1, hA0⟩
        · exact ⟨(.agg #[.int .i64 x, .int .i64 y]), fun w' hw' => ⟨rfl, rfl⟩, rfl⟩
      · obtain rfl := e6 (hdep 6 (by kernel_rfl))
        refine wpOp_want rfl rfl (Oper.wp_of_quiet (C := fun w' => w' = wz) (K := fun a' => a' = ⟨#[.slice A n c, .agg #[.int .i64 k, .int .i64 b], .int .i64 r, undef, .pointer (some ⟨w.heap.size, 0, none⟩), undef, .bool false, .int .i64 (1048576 - (n : Int)), u8, u9, undef, undef, undef, .slice A n c, .int .i64 1048576, .int .i64 (1048576 - (n : Int)), .int .i64 (1048576 - (n : Int)), .bool (decide (1048576 - (n : Int) < 0)), (.tuple #[.agg #[.int .i64 x, .int .i64 y], .bool z]), u19, u20, u21, u22, u23, u24, u25, (.bool z), undef, undef, undef, undef, undef, undef, undef, undef, undef, undef, undef, undef, undef, undef, undef, undef, undef, undef, undef, undef, undef, undef, undef, undef], []⟩) rfl ?_ ?_)
        · intro a' w' hC' hK
          subst hK
          subst hC'
          exact ⟨u8, u9, (.tuple #[.agg #[.int .i64 x, .int .i64 y], .bool z]), u19, u20, u21, u22, u23, u24, u25, (.bool z), by first | rfl | (simp; done) | (simp; exact ⟨rfl, rfl⟩), e0, e2, e3, e4, e5, fun _ => rfl, e7, fun _ => rfl, e11, hB0, hR1, hA0⟩
        · exact ⟨(.bool z), fun w' hw' => ⟨rfl, rfl⟩, rfl⟩
      · have h9f : L 10 = false := by cases h : L 10; rfl; exact absurd (hcl 10 9 h (by kernel_rfl)) (by rw [hL]; decide)
        have HB := Lib.hid hB0; clear hB0
        refine wpOp_want rfl rfl ?_
        go_simp
        exact ⟨(.pointer (some ⟨wz.heap.size, 0, none⟩)), u9, u18, u19, u20, u21, u22, u23, u24, u25, u26, by first | rfl | (simp; done) | (simp; exact ⟨rfl, rfl⟩), e0, e2, e3, e4, e5, e6, e7, e8, e11, HB.out.alloc HB.out.size _, (fun h1 h9 => by obtain ⟨q, e, hA⟩ := hR1 h1 h9; exact ⟨q, e, hA.past _⟩), (fun _ => ⟨_, rfl, HB.out.size, At.congr (At.new2 wz 36) (fun k _ => by show (0 : Int) = if L 10 = true then _ else 0; rw [h9f]; rfl)⟩)⟩
      · obtain rfl := e7 (hdep 7 (by kernel_rfl))
        obtain ⟨q, rfl, hq2, hq3⟩ := hA0 (hdep 9 (by kernel_rfl))
        have hq3' : At wz q 2 (fun _ => 0) := hq3.congr (fun k _ => by show (if L 10 = true then _ else 0) = (0 : Int); rw [hL]; rfl)
        have o0 := hq3'.cell 0 (by omega)
        have z0 := hq3'.free 0
        have o1 := hq3'.cell 1 (by omega)
        have z1 := hq3'.free 1
        have HB := Lib.hid hB0; clear hB0
        refine wpOp_want rfl rfl ?_
        go_simp
        exact ⟨(.pointer (some ⟨q, 0, none⟩)), u9, u18, u19, u20, u21, u22, u23, u24, (.agg #[.int .i64 x, .int .i64 y]), u26, by first | rfl | (simp; done) | (simp; exact ⟨rfl, rfl⟩), e0, e2, e3, e4, e5, e6, fun _ => rfl, e8, e11, HB.out.trans (setCells_below (p := q) (B := W3.heap.size) hq2 (vals 2 (fr x y)) 0), (fun _ h9 => by cases h9), (fun _ => ⟨q, rfl, hq2, At.congr (hq3'.stored (fr x y)) (fun k _ => rfl)⟩)⟩
      · obtain rfl := e8 (hdep 8 (by kernel_rfl))
        refine wpOp_want rfl rfl (Oper.wp_of_quiet (C := fun w' => w' = wz) (K := fun a' => a' = ⟨#[.slice A n c, .agg #[.int .i64 k, .int .i64 b], .int .i64 r, undef, .pointer (some ⟨w.heap.size, 0, none⟩), undef, .bool false, .int .i64 (1048576 - (n : Int)), u8, (.bool z), undef, undef, undef, .slice A n c, .int .i64 1048576, .int .i64 (1048576 - (n : Int)), .int .i64 (1048576 - (n : Int)), .bool (decide (1048576 - (n : Int) < 0)), u18, u19, u20, u21, u22, u23, u24, u25, (.bool z), undef, undef, undef, undef, undef, undef, undef, undef, undef, undef, undef, undef, undef, undef, undef, undef, undef, undef, undef, undef, undef, undef, undef, undef], []⟩) rfl ?_ ?_)
        · intro a' w' hC' hK
          subst hK
          subst hC'
          exact ⟨u8, (.bool z), u18, u19, u20, u21, u22, u23, u24, u25, (.bool z), by first | rfl | (simp; done) | (simp; exact ⟨rfl, rfl⟩), e0, e2, e3, e4, e5, e6, e7, fun _ => rfl, fun _ => rfl, hB0, hR1, hA0⟩
        · exact BigFrame.quiet_assign _ rfl rfl
    intro L az wz hL hcl hI
    obtain ⟨u8, u9, u18, u19, u20, u21, u22, u23, u24, u25, u26, rfl, e0, e2, e3, e4, e5, e6, e7, e8, e11, hB0, hR1, hA0⟩ := hI
    obtain rfl := e0 (hL 0 (by decide))
    obtain rfl := e2 (hL 2 (by decide))
    obtain rfl := e3 (hL 3 (by decide))
    obtain rfl := e4 (hL 4 (by decide))
    obtain rfl := e5 (hL 5 (by decide))
    obtain rfl := e6 (hL 6 (by decide))
    obtain rfl := e7 (hL 7 (by decide))
    obtain rfl := e8 (hL 8 (by decide))
    obtain rfl := e11 (hL 11 (by decide))
    obtain ⟨q1, rfl, hlq1, hq3⟩ := hA0 (hL 9 (by decide))
    have hX5 : At wz q1 2 (fr x y) := hq3.congr fun k hk => by rw [if_pos (hL 10 (by decide))]
    clear hq3
    clear hcl hL hR1
    have hB := hB.trans (hB0.mono hB.size)
    have hX1 := hX1.up hB0
    clear hB0
    obtain ⟨w4, hW⟩ : ∃ W, W = wz := ⟨_, rfl⟩
    rw [← hW] at hX1 hX5 hB ⊢
    clear hW
    go_wp2_with fail
    refine (Ht0.out _ (H0.out.up hB)).mono ?_
    rintro e w6 ⟨g7, rfl, hg, hA8, hb⟩
    clear hg
    have hB := nx hB hb
    have hX1 := hX1.up hb
    have hX5 := hX5.up hb
    clear hb
    have c9 := hX1.cell 0 (by omega)
    have c10 := hX1.cell 1 (by omega)
    go_wp2_with fail
    clear c9 c10
    refine (Htg.out k b _).mono ?_
    rintro e w11 ⟨rfl, hb⟩
    have hB := nx hB hb
    have hX1 := hX1.up hb
    have hX5 := hX5.up hb
    have hA8 := hA8.up hb
    clear hb
    go_wp2_with fail
    refine (Hi.out _ _ _ (row_of_at hA8)).mono ?_
    rintro e w12 ⟨rfl, hb⟩
    have hB := nx hB hb
    have hX1 := hX1.up hb
    have hX5 := hX5.up hb
    have hA8 := hA8.up hb
    clear hb
    have hX13 := (At.newv x y w12)
    have hX1 := hX1.past (.cells #[.int .i64 x, .int .i64 y] 36)
    have hX5 := hX5.past (.cells #[.int .i64 x, .int .i64 y] 36)
    have hA8 := hA8.past (.cells #[.int .i64 x, .int .i64 y] 36)
    have hB := na hB (.cells #[.int .i64 x, .int .i64 y] 36)
    have c14 := hX13.cell 0 (by omega)
    have c15 := hX13.cell 1 (by omega)
    have c16 := hX5.cell 0 (by omega)
    have c17 := hX5.cell 1 (by omega)
    go_wp2_with fail
    clear c14 c15 c16 c17
    refine (Hq0.out _).mono ?_
    rintro e w18 ⟨rfl, hb⟩
    have hB := nx hB hb
    have hX1 := hX1.up hb
    have hX5 := hX5.up hb
    have hA8 := hA8.up hb
    have hX13 := hX13.up hb
    clear hb
    cases z
    all_goals
      go_wp2_with fail
      refine (Ht0.out _ (H0.out.up hB)).mono ?_
      rintro e w19 ⟨g20, rfl, hg, hA21, hb⟩
      clear hg
      have hB := nx hB hb
      have hX1 := hX1.up hb
      have hX5 := hX5.up hb
      have hA8 := hA8.up hb
      have hX13 := hX13.up hb
      clear hb
      go_wp2_with fail
      refine (HqS0.out _ _ _ _ _ (row_of_at hA8) (row_of_at hA21)).mono ?_
      rintro e w22 ⟨rfl, hb⟩
      have hB := nx hB hb
      have hX1 := hX1.up hb
      have hX5 := hX5.up hb
      have hA8 := hA8.up hb
      have hX13 := hX13.up hb
      have hA21 := hA21.up hb
      clear hb
      go_wp2_with fail
      go_ret
      exact ⟨rfl, hB⟩
  · rw [if_neg hbig] at hsz
    have Hsz := Lib.hid hsz; clear hsz
    clear h0 hbig hc0 hm0 hn
    go_enter Try.func8, Try.ntmps8
    go_wp2_with fail
    refine (Hsz.out _).mono ?_
    rintro e w0 ⟨rfl, hw0⟩
    have hw0 := hw0.symm
    subst hw0
    go_wp2_with fail
    go_ret
    exact ⟨rfl, na (n0 w) _⟩

theorem laidOut : laidOutB Try.prog = true := by kernel_rfl
set_option maxRecDepth 100000 in
/-- What the walk gives, for every argument. -/
theorem contract (H : Type) (enc : TypeId × Value → H) (W : World) (base : Nat) (args : Array Value) (ds gs : List (DataW H)) (before : List MemPlace)
    (hval : ∀ (j : Nat) t v, Try.f8.params[j]? = some t → args[j]? = some v → Value.okWide Try.prog W .any base t v)
    (hW : DataW.Whole enc Try.prog Try.f8.params.toList Rows.fnExactValueAheadSpec.vars false W args.toList ds gs before) :
    Calls Try.prog 8 args W fun e W' => ∃ v, e = .returned v ∧ Rows.fnExactValueAheadSpec.post enc Try.prog Try.f8 false true false false W args v W' := by
  have hW' := hW
  obtain ⟨p, q, hA0, hV, rfl, hfz, hnd⟩ := hW
  have hA : DataW.TrodAll enc Try.prog W 0 (fun _ => true) true Try.f8.params.toList args.toList ds p := hA0
  rw [Try.params8] at hA hval
  obtain ⟨v0, vs0, d0, ds0, p0, q0, hargs, rfl, rfl, h0, r0⟩ := trodAll_cons hA
  obtain ⟨v1, vs1, d1, ds1, p1, q1, rfl, rfl, rfl, h1, r1⟩ := trodAll_cons r0
  obtain ⟨v2, vs2, d2, ds2, p2, q2, rfl, rfl, rfl, h2, r2⟩ := trodAll_cons r1
  obtain ⟨rfl, rfl, rfl⟩ := trodAll_nil r2
  obtain rfl : args = #[v0, v1, v2] := by cases args; simp_all
  obtain ⟨rfl, rfl⟩ := trodVars_none hV
  obtain ⟨A0, n0, c0, rfl⟩ := okWide_slice Try.underlying34 (hval 0 34 v0 rfl rfl)
  have k0 := h0
  have lt0 : ∀ x ∈ p0, x.block < W.heap.size := fun x hx => by have := hW'.lt x (by simp [hx]); simpa using this
  obtain ⟨fu0, hf0⟩ := h0
  obtain ⟨a0, ht0, hc0, hm0, w0⟩ := OpenD.dice_of hf0 lt0
  obtain ⟨a1, b1, rfl, w1, u1⟩ := OpenG.goal_of (hval 1 23 v1 rfl rfl) h1
  have k1 := h1
  have lt1 : ∀ x ∈ p1, x.block < W.heap.size := fun x hx => by have := hW'.lt x (by simp [hx]); simpa using this
  obtain ⟨a2, rfl, rfl, rfl, wf2⟩ := open_int Try.underlying3 (hval 2 3 v2 rfl rfl) h2
  have w2 : -9223372036854775808 ≤ a2 ∧ a2 ≤ 9223372036854775807 := by simpa [Lit.wf, IntKind.min, IntKind.max, IntKind.bits, IntKind.signed] using wf2
  clear hA0
  simp only [List.append_nil] at hW'
  refine (law_any A0 n0 c0 a0 a1 b1 a2 W ht0 hc0 hm0).mono fun e W' ⟨he, hg⟩ => ?_
  subst he
  exact ⟨_, rfl, _, _, _, [], (p0 ++ (p1 ++ ([] ++ []))), [], hW', trodAll_cons_mk (shut_bool Try.underlying4 _) trodAll_mk0, trodAll_cons_mk (Below.trod laidOut (by kernel_rfl) (of_decide_eq_true (by kernel_rfl)) k0 hg lt0) (trodAll_cons_mk (Below.trod laidOut (by kernel_rfl) (of_decide_eq_true (by kernel_rfl)) k1 hg lt1) (trodAll_cons_mk (shut_int Try.underlying3 wf2) trodAll_mk0)), rfl, hg.frame _, fun h => by cases h⟩

theorem own : ownKnob Try.prog.godebug = none := by kernel_rfl

set_option maxRecDepth 100000 in
theorem lifted (os : Os) (started : os.Started) (H : Type) (enc : TypeId × Value → H) :
    ReturnsInHanded {} Try.checked os 8 .any (Rows.fnExactValueAheadSpec.pre6 enc Try.prog Try.f8 Rows.fnExactValueAheadRow.domain false) (Rows.fnExactValueAheadSpec.post enc Try.prog Try.f8 false true false false) := by
  refine returnsInHanded_of_change (C := Try.checked) own started (by kernel_rfl) Try.func8
    (ChangeSpec.witness6 (enc := enc) (C := Try.checked) false ⟨#[], #[.slice none 0 0, .agg #[.int .i64 0, .int .i64 0], .int .i64 0], []⟩ 8 (by kernel_rfl) (by kernel_rfl) (by kernel_rfl) (by kernel_rfl)) ?_
  intro W base args ds gs before hval hW _ _
  exact contract H enc W base args ds gs before hval hW

theorem holds : Rows.FnExactValueAheadSaid :=
  OpenClaim.holds_of_wide 8 Try.f8 rfl rfl rfl rfl rfl rfl rfl ⟨rfl, rfl, rfl, rfl, rfl⟩ rfl rfl rfl rfl rfl (by kernel_rfl) Try.func8 (by kernel_rfl)
    (of_decide_eq_true (by kernel_rfl)) (by unfold Func.isWrapper; rw [if_neg (by decide +kernel)]; exact ⟨rfl, rfl⟩)
    (fun os started H enc _ => lifted os started H enc)

end AheadP
end Go.Proofs.Ytppaegibhikjnaa
