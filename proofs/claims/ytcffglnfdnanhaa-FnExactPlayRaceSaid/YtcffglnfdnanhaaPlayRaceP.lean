/-
  FnExactPlayRace: for every two arrays of six numbers, every goal and every list of places the law returns true, and the list reads afterwards as it read before. No condition.
-/
import Derived.Test.YtcffglnfdnanhaaRows
import Derived.Test.YtcffglnfdnanhaaArr
import Derived.Test.YtcffglnfdnanhaaAnyR
import Derived.Test.YtcffglnfdnanhaaDieW
import Derived.Test.YtcffglnfdnanhaaSortW
import Derived.Test.YtcffglnfdnanhaaFracW
import Derived.Test.YtcffglnfdnanhaaFracL
import Derived.Test.YtcffglnfdnanhaaCutW
import Derived.Test.YtcffglnfdnanhaaAll6
import Derived.Test.YtcffglnfdnanhaaAllL
import Derived.Test.YtcffglnfdnanhaaOwnL
import Derived.Test.YtcffglnfdnanhaaFracM
import Derived.Test.YtcffglnfdnanhaaStopM
import Derived.Test.YtcffglnfdnanhaaRunM
import Derived.Test.YtcffglnfdnanhaaRunI
import Derived.Test.YtcffglnfdnanhaaRunS
import Derived.Test.YtcffglnfdnanhaaRunW
import Derived.Test.YtcffglnfdnanhaaRunW
import Derived.Test.YtcffglnfdnanhaaOpenI
import Derived.Test.YtcffglnfdnanhaaOpenD
import Derived.Test.YtcffglnfdnanhaaPlayW
import Derived.Test.YtcffglnfdnanhaaAnyR
import Derived.Test.YtcffglnfdnanhaaRaceP0
import Derived.Test.YtcffglnfdnanhaaRaceP1
import Derived.Test.YtcffglnfdnanhaaOpenD
import Derived.WalkKit
import Derived.WalkLawsBesides
import Derived.WalkSpells
import Derived.ProofKit
import Derived.OpenShut
import Derived.Deep.RegionWith
import Derived.Deep.QuietTactic
import Derived.BigQuiet
namespace Go.Proofs.Ytcffglnfdnanhaa
open Go.ChangeShapes Go.WideShapes Go.ChangeAt Go.RowKit
open Go.ChangeMaps (open_string shut_string)

namespace PlayRaceP
open Dice Arr DieW SortW FracW CutW All6 AllL OwnL FracM StopM RunM RunI RunS RunW OpenG OpenD PlayW AnyR RaceP0 RaceP1


set_option maxRecDepth 100000 in
set_option maxHeartbeats 16000000 in
theorem law_any (a b : Nat → Int) (g : Int) (A : Option Addr) (n c : Nat) (p : Nat → Int) (w : World) (hR : RowI w A n p) (_ : n ≤ c) (_ : c ≤ maxLen) :
    Calls Try.prog 14 #[dv a, dv b, .int .i64 g, .slice A n c] w fun e w' => e = .returned (.bool true) ∧ Below w.heap.size w w' := by
  by_cases hbig : n ≤ 1048576
  · have hgd : decide ((1048576 : Int) < (n : Int)) = false := decide_eq_false (by omega)
    have hgdN : decide (1048576 < n) = false := decide_eq_false (by omega)
    have ht6 := toA6_any
    unfold dv at ht6
    have Ht6 := Lib.hid ht6; clear ht6
    have hs := fun gb c w h' => specRace_any a b g gb n c p w h' hbig
    have hi := fun gb c w h' => implRace_any a b g gb n c p w h' hbig
    obtain ⟨x, y, z, ho⟩ : ∃ x y z, prv (outR a b g p n) = .tuple #[.int .i64 x, .int .i64 y, .bool z] := ⟨_, _, _, rfl⟩
    rw [ho] at hs hi
    clear ho
    unfold dv at hs hi
    have Hs := Lib.hid hs; clear hs
    have Hi := Lib.hid hi; clear hi
    have Ht3 := Lib.hid (fun w h' => toInts_any A n c p w h' hbig)
    have HqS3 := Lib.hid (fun (g g' : Nat) (c c' : Nat) w (h : At w g n p) (h' : At w g' n p) => eqInts_any 0 0 (some ⟨g, 0, none⟩) (some ⟨g', 0, none⟩) n c c' p w (.inr ⟨g, rfl, Nat.zero_le _, h⟩) (.inr ⟨g', rfl, Nat.zero_le _, h'⟩) (Nat.le_trans hbig (by unfold maxLen; omega)))
    have H3 := Lib.hid hR
    clear hR hbig
    have hB := n0 w
    unfold dv
    go_enter Try.func14, Try.ntmps14
    have hX1 := (At.new6 w a 22 (b := w.heap.size) rfl)
    have hB := na hB (sixO a 22)
    have hX2 := (At.new6 (w.alloc (sixO a 22)) b 22 (b := w.heap.size + 1) (by rw [size_alloc]))
    have hX1 := hX1.past (sixO b 22)
    have hB := na hB (sixO b 22)
    go_wp2_with fail
    obtain ⟨W3, hW⟩ : ∃ W, W = ((w.alloc (sixO a 22)).alloc (sixO b 22)) := ⟨_, rfl⟩
    rw [← hW] at hX1 hX2 hB ⊢
    clear hW
    refine wp_region_inc (I := fun L az w' => ∃ u9 u10 u11 u19 u20 u21 u22 u23 u24 u25 u26 u27 u28 u29 u30 : Value, az = ⟨#[.agg #[.int .i64 (a 0), .int .i64 (a 1), .int .i64 (a 2), .int .i64 (a 3), .int .i64 (a 4), .int .i64 (a 5)], .agg #[.int .i64 (b 0), .int .i64 (b 1), .int .i64 (b 2), .int .i64 (b 3), .int .i64 (b 4), .int .i64 (b 5)], .int .i64 g, .slice A n c, .pointer (some ⟨w.heap.size, 0, none⟩), .pointer (some ⟨w.heap.size + 1, 0, none⟩), undef, undef, .bool false, u9, u10, u11, undef, undef, undef, undef, .slice A n c, .int .i64 (n : Int), .bool false, u19, u20, u21, u22, u23, u24, u25, u26, u27, u28, u29, u30, undef, undef, undef, undef, undef, undef, undef, undef, undef, undef, undef, undef, undef, undef, undef, undef, undef, undef, undef, undef, undef, undef, undef, undef, undef, undef, undef, undef, undef, undef, undef], []⟩ ∧ (L 0 = true → u20 = (.agg #[.int .i64 (a 0), .int .i64 (a 1), .int .i64 (a 2), .int .i64 (a 3), .int .i64 (a 4), .int .i64 (a 5)])) ∧ (L 1 = true → u21 = (.agg #[.int .i64 (a 0), .int .i64 (a 1), .int .i64 (a 2), .int .i64 (a 3), .int .i64 (a 4), .int .i64 (a 5)])) ∧ (L 2 = true → u22 = (.agg #[.int .i64 (b 0), .int .i64 (b 1), .int .i64 (b 2), .int .i64 (b 3), .int .i64 (b 4), .int .i64 (b 5)])) ∧ (L 3 = true → u23 = (.agg #[.int .i64 (b 0), .int .i64 (b 1), .int .i64 (b 2), .int .i64 (b 3), .int .i64 (b 4), .int .i64 (b 5)])) ∧ (L 4 = true → u24 = (.int .i64 g)) ∧ (L 5 = true → u25 = (.slice A n c)) ∧ (L 7 = true → u27 = (.tuple #[.int .i64 x, .int .i64 y, .bool z])) ∧ (L 8 = true → u19 = (.tuple #[.int .i64 x, .int .i64 y, .bool z])) ∧ (L 9 = true → u28 = (.int .i64 x)) ∧ (L 10 = true → u29 = (.int .i64 y)) ∧ (L 11 = true → u30 = (.bool z)) ∧ (L 12 = true → u9 = (.int .i64 x)) ∧ (L 13 = true → u10 = (.int .i64 y)) ∧ (L 14 = true → u11 = (.bool z)) ∧ Below W3.heap.size W3 w' ∧ (L 6 = true → ∃ q, u26 = .slice (some ⟨q, 0, none⟩) n n ∧ At w' q n p)) (by kernel_rfl) (by kernel_rfl) ?_ ?_ ?_
    · exact ⟨_, _, _, _, _, _, _, _, _, _, _, _, _, _, _, rfl, (fun h => by cases h), (fun h => by cases h), (fun h => by cases h), (fun h => by cases h), (fun h => by cases h), (fun h => by cases h), (fun h => by cases h), (fun h => by cases h), (fun h => by cases h), (fun h => by cases h), (fun h => by cases h), (fun h => by cases h), (fun h => by cases h), (fun h => by cases h), ((Below.refl _ W3).drew), (fun h => by cases h)⟩
    · intro L az wz i hi hL hdep hcl hI
      obtain ⟨u9, u10, u11, u19, u20, u21, u22, u23, u24, u25, u26, u27, u28, u29, u30, rfl, e0, e1, e2, e3, e4, e5, e7, e8, e9, e10, e11, e12, e13, e14, hB0, hR6⟩ := hI
      have hi' : i < 15 := hi
      clear hi
      obtain rfl | rfl | rfl | rfl | rfl | rfl | rfl | rfl | rfl | rfl | rfl | rfl | rfl | rfl | rfl : i = 0 ∨ i = 1 ∨ i = 2 ∨ i = 3 ∨ i = 4 ∨ i = 5 ∨ i = 6 ∨ i = 7 ∨ i = 8 ∨ i = 9 ∨ i = 10 ∨ i = 11 ∨ i = 12 ∨ i = 13 ∨ i = 14 := by omega
      · have hXX := hX1.up hB0
        have c0 := hXX.cell 0 (by omega)
        have c1 := hXX.cell 1 (by omega)
        have c2 := hXX.cell 2 (by omega)
        have c3 := hXX.cell 3 (by omega)
        have c4 := hXX.cell 4 (by omega)
        have c5 := hXX.cell 5 (by omega)
        have HB := Lib.hid hB0; clear hB0
        refine wpOp_want rfl rfl ?_
        go_simp
        exact ⟨u9, u10, u11, u19, (.agg #[.int .i64 (a 0), .int .i64 (a 1), .int .i64 (a 2), .int .i64 (a 3), .int .i64 (a 4), .int .i64 (a 5)]), u21, u22, u23, u24, u25, u26, u27, u28, u29, u30, by first | rfl | (simp; done) | (simp; exact ⟨rfl, rfl⟩), fun _ => rfl, e1, e2, e3, e4, e5, e7, e8, e9, e10, e11, e12, e13, e14, HB.out, hR6⟩
      · obtain rfl := e0 (hdep 0 (by kernel_rfl))
        have HB := Lib.hid hB0; clear hB0
        refine wpOp_want rfl rfl ?_
        go_simp
        refine (Ht6.out a _).mono ?_
        rintro e w9 ⟨rfl, hb⟩
        go_simp
        exact ⟨u9, u10, u11, u19, (.agg #[.int .i64 (a 0), .int .i64 (a 1), .int .i64 (a 2), .int .i64 (a 3), .int .i64 (a 4), .int .i64 (a 5)]), (.agg #[.int .i64 (a 0), .int .i64 (a 1), .int .i64 (a 2), .int .i64 (a 3), .int .i64 (a 4), .int .i64 (a 5)]), u22, u23, u24, u25, u26, u27, u28, u29, u30, by first | rfl | (simp; done) | (simp; exact ⟨rfl, rfl⟩), fun _ => rfl, fun _ => rfl, e2, e3, e4, e5, e7, e8, e9, e10, e11, e12, e13, e14, HB.out.trans (hb.mono HB.out.size), (fun h1 => by obtain ⟨q, e, hA⟩ := hR6 h1 ; exact ⟨q, e, hA.up hb⟩)⟩
      · have hXX := hX2.up hB0
        have c0 := hXX.cell 0 (by omega)
        have c1 := hXX.cell 1 (by omega)
        have c2 := hXX.cell 2 (by omega)
        have c3 := hXX.cell 3 (by omega)
        have c4 := hXX.cell 4 (by omega)
        have c5 := hXX.cell 5 (by omega)
        have HB := Lib.hid hB0; clear hB0
        refine wpOp_want rfl rfl ?_
        go_simp
        exact ⟨u9, u10, u11, u19, u20, u21, (.agg #[.int .i64 (b 0), .int .i64 (b 1), .int .i64 (b 2), .int .i64 (b 3), .int .i64 (b 4), .int .i64 (b 5)]), u23, u24, u25, u26, u27, u28, u29, u30, by first | rfl | (simp; done) | (simp; exact ⟨rfl, rfl⟩), e0, e1, fun _ => rfl, e3, e4, e5, e7, e8, e9, e10, e11, e12, e13, e14, HB.out, hR6⟩
      · obtain rfl := e2 (hdep 2 (by kernel_rfl))
        have HB := Lib.hid hB0; clear hB0
        refine wpOp_want rfl rfl ?_
        go_simp
        refine (Ht6.out b _).mono ?_
        rintro e w9 ⟨rfl, hb⟩
        go_simp
        exact ⟨u9, u10, u11, u19, u20, u21, (.agg #[.int .i64 (b 0), .int .i64 (b 1), .int .i64 (b 2), .int .i64 (b 3), .int .i64 (b 4), .int .i64 (b 5)]), (.agg #[.int .i64 (b 0), .int .i64 (b 1), .int .i64 (b 2), .int .i64 (b 3), .int .i64 (b 4), .int .i64 (b 5)]), u24, u25, u26, u27, u28, u29, u30, by first | rfl | (simp; done) | (simp; exact ⟨rfl, rfl⟩), e0, e1, fun _ => rfl, fun _ => rfl, e4, e5, e7, e8, e9, e10, e11, e12, e13, e14, HB.out.trans (hb.mono HB.out.size), (fun h1 => by obtain ⟨q, e, hA⟩ := hR6 h1 ; exact ⟨q, e, hA.up hb⟩)⟩
      · refine wpOp_want rfl rfl (Oper.wp_of_quiet (C := fun w' => w' = wz) (K := fun a' => a' = ⟨#[.agg #[.int .i64 (a 0), .int .i64 (a 1), .int .i64 (a 2), .int .i64 (a 3), .int .i64 (a 4), .int .i64 (a 5)], .agg #[.int .i64 (b 0), .int .i64 (b 1), .int .i64 (b 2), .int .i64 (b 3), .int .i64 (b 4), .int .i64 (b 5)], .int .i64 g, .slice A n c, .pointer (some ⟨w.heap.size, 0, none⟩), .pointer (some ⟨w.heap.size + 1, 0, none⟩), undef, undef, .bool false, u9, u10, u11, undef, undef, undef, undef, .slice A n c, .int .i64 (n : Int), .bool false, u19, u20, u21, u22, u23, (.int .i64 g), u25, u26, u27, u28, u29, u30, undef, undef, undef, undef, undef, undef, undef, undef, undef, undef, undef, undef, undef, undef, undef, undef, undef, undef, undef, undef, undef, undef, undef, undef, undef, undef, undef, undef, undef, undef, undef], []⟩) rfl ?_ ?_)
        · intro a' w' hC' hK
          subst hK
          subst hC'
          exact ⟨u9, u10, u11, u19, u20, u21, u22, u23, (.int .i64 g), u25, u26, u27, u28, u29, u30, by first | rfl | (simp; done) | (simp; exact ⟨rfl, rfl⟩), e0, e1, e2, e3, fun _ => rfl, e5, e7, e8, e9, e10, e11, e12, e13, e14, hB0, hR6⟩
        · exact BigFrame.quiet_move _ rfl rfl
      · refine wpOp_want rfl rfl (Oper.wp_of_quiet (C := fun w' => w' = wz) (K := fun a' => a' = ⟨#[.agg #[.int .i64 (a 0), .int .i64 (a 1), .int .i64 (a 2), .int .i64 (a 3), .int .i64 (a 4), .int .i64 (a 5)], .agg #[.int .i64 (b 0), .int .i64 (b 1), .int .i64 (b 2), .int .i64 (b 3), .int .i64 (b 4), .int .i64 (b 5)], .int .i64 g, .slice A n c, .pointer (some ⟨w.heap.size, 0, none⟩), .pointer (some ⟨w.heap.size + 1, 0, none⟩), undef, undef, .bool false, u9, u10, u11, undef, undef, undef, undef, .slice A n c, .int .i64 (n : Int), .bool false, u19, u20, u21, u22, u23, u24, (.slice A n c), u26, u27, u28, u29, u30, undef, undef, undef, undef, undef, undef, undef, undef, undef, undef, undef, undef, undef, undef, undef, undef, undef, undef, undef, undef, undef, undef, undef, undef, undef, undef, undef, undef, undef, undef, undef], []⟩) rfl ?_ ?_)
        · intro a' w' hC' hK
          subst hK
          subst hC'
          exact ⟨u9, u10, u11, u19, u20, u21, u22, u23, u24, (.slice A n c), u26, u27, u28, u29, u30, by first | rfl | (simp; done) | (simp; exact ⟨rfl, rfl⟩), e0, e1, e2, e3, e4, fun _ => rfl, e7, e8, e9, e10, e11, e12, e13, e14, hB0, hR6⟩
        · exact BigFrame.quiet_move _ rfl rfl
      · obtain rfl := e5 (hdep 5 (by kernel_rfl))
        have HB := Lib.hid hB0; clear hB0
        refine wpOp_want rfl rfl ?_
        go_simp
        refine (Ht3.out _ (H3.out.up (hB.trans (HB.out.mono hB.size)))).mono ?_
        rintro e w9 ⟨gr, rfl, _, hAr, hb⟩
        go_simp
        exact ⟨u9, u10, u11, u19, u20, u21, u22, u23, u24, (.slice A n c), (.slice (some ⟨gr, 0, none⟩) n n), u27, u28, u29, u30, by first | rfl | (simp; done) | (simp; exact ⟨rfl, rfl⟩), e0, e1, e2, e3, e4, fun _ => rfl, e7, e8, e9, e10, e11, e12, e13, e14, HB.out.trans (hb.mono HB.out.size), (fun _ => ⟨gr, rfl, hAr⟩)⟩
      · obtain rfl := e1 (hdep 1 (by kernel_rfl))
        obtain rfl := e3 (hdep 3 (by kernel_rfl))
        obtain rfl := e4 (hdep 4 (by kernel_rfl))
        obtain ⟨g6, rfl, hAr6⟩ := hR6 (hdep 6 (by kernel_rfl))
        have HB := Lib.hid hB0; clear hB0
        refine wpOp_want rfl rfl ?_
        go_simp
        refine (Hs.out _ _ _ hAr6).mono ?_
        rintro e w9 ⟨rfl, hb⟩
        go_simp
        exact ⟨u9, u10, u11, u19, u20, (.agg #[.int .i64 (a 0), .int .i64 (a 1), .int .i64 (a 2), .int .i64 (a 3), .int .i64 (a 4), .int .i64 (a 5)]), u22, (.agg #[.int .i64 (b 0), .int .i64 (b 1), .int .i64 (b 2), .int .i64 (b 3), .int .i64 (b 4), .int .i64 (b 5)]), (.int .i64 g), u25, (.slice (some ⟨g6, 0, none⟩) n n), (.tuple #[.int .i64 x, .int .i64 y, .bool z]), u28, u29, u30, by first | rfl | (simp; done) | (simp; exact ⟨rfl, rfl⟩), e0, fun _ => rfl, e2, fun _ => rfl, fun _ => rfl, e5, fun _ => rfl, e8, e9, e10, e11, e12, e13, e14, HB.out.trans (hb.mono HB.out.size), (fun h1 => by obtain ⟨q, e, hA⟩ := hR6 h1 ; exact ⟨q, e, hA.up hb⟩)⟩
      · obtain rfl := e7 (hdep 7 (by kernel_rfl))
        refine wpOp_want rfl rfl (Oper.wp_of_quiet (C := fun w' => w' = wz) (K := fun a' => a' = ⟨#[.agg #[.int .i64 (a 0), .int .i64 (a 1), .int .i64 (a 2), .int .i64 (a 3), .int .i64 (a 4), .int .i64 (a 5)], .agg #[.int .i64 (b 0), .int .i64 (b 1), .int .i64 (b 2), .int .i64 (b 3), .int .i64 (b 4), .int .i64 (b 5)], .int .i64 g, .slice A n c, .pointer (some ⟨w.heap.size, 0, none⟩), .pointer (some ⟨w.heap.size + 1, 0, none⟩), undef, undef, .bool false, u9, u10, u11, undef, undef, undef, undef, .slice A n c, .int .i64 (n : Int), .bool false, (.tuple #[.int .i64 x, .int .i64 y, .bool z]), u20, u21, u22, u23, u24, u25, u26, (.tuple #[.int .i64 x, .int .i64 y, .bool z]), u28, u29, u30, undef, undef, undef, undef, undef, undef, undef, undef, undef, undef, undef, undef, undef, undef, undef, undef, undef, undef, undef, undef, undef, undef, undef, undef, undef, undef, undef, undef, undef, undef, undef], []⟩) rfl ?_ ?_)
        · intro a' w' hC' hK
          subst hK
          subst hC'
          exact ⟨u9, u10, u11, (.tuple #[.int .i64 x, .int .i64 y, .bool z]), u20, u21, u22, u23, u24, u25, u26, (.tuple #[.int .i64 x, .int .i64 y, .bool z]), u28, u29, u30, by first | rfl | (simp; done) | (simp; exact ⟨rfl, rfl⟩), e0, e1, e2, e3, e4, e5, fun _ => rfl, fun _ => rfl, e9, e10, e11, e12, e13, e14, hB0, hR6⟩
        · exact BigFrame.quiet_move _ rfl rfl
      · obtain rfl := e8 (hdep 8 (by kernel_rfl))
        refine wpOp_want rfl rfl (Oper.wp_of_quiet (C := fun w' => w' = wz) (K := fun a' => a' = ⟨#[.agg #[.int .i64 (a 0), .int .i64 (a 1), .int .i64 (a 2), .int .i64 (a 3), .int .i64 (a 4), .int .i64 (a 5)], .agg #[.int .i64 (b 0), .int .i64 (b 1), .int .i64 (b 2), .int .i64 (b 3), .int .i64 (b 4), .int .i64 (b 5)], .int .i64 g, .slice A n c, .pointer (some ⟨w.heap.size, 0, none⟩), .pointer (some ⟨w.heap.size + 1, 0, none⟩), undef, undef, .bool false, u9, u10, u11, undef, undef, undef, undef, .slice A n c, .int .i64 (n : Int), .bool false, (.tuple #[.int .i64 x, .int .i64 y, .bool z]), u20, u21, u22, u23, u24, u25, u26, u27, (.int .i64 x), u29, u30, undef, undef, undef, undef, undef, undef, undef, undef, undef, undef, undef, undef, undef, undef, undef, undef, undef, undef, undef, undef, undef, undef, undef, undef, undef, undef, undef, undef, undef, undef, undef], []⟩) rfl ?_ ?_)
        · intro a' w' hC' hK
          subst hK
          subst hC'
          exact ⟨u9, u10, u11, (.tuple #[.int .i64 x, .int .i64 y, .bool z]), u20, u21, u22, u23, u24, u25, u26, u27, (.int .i64 x), u29, u30, by first | rfl | (simp; done) | (simp; exact ⟨rfl, rfl⟩), e0, e1, e2, e3, e4, e5, e7, fun _ => rfl, fun _ => rfl, e10, e11, e12, e13, e14, hB0, hR6⟩
        · exact ⟨(.int .i64 x), fun w' hw' => ⟨rfl, rfl⟩, rfl⟩
      · obtain rfl := e8 (hdep 8 (by kernel_rfl))
        refine wpOp_want rfl rfl (Oper.wp_of_quiet (C := fun w' => w' = wz) (K := fun a' => a' = ⟨#[.agg #[.int .i64 (a 0), .int .i64 (a 1), .int .i64 (a 2), .int .i64 (a 3), .int .i64 (a 4), .int .i64 (a 5)], .agg #[.int .i64 (b 0), .int .i64 (b 1), .int .i64 (b 2), .int .i64 (b 3), .int .i64 (b 4), .int .i64 (b 5)], .int .i64 g, .slice A n c, .pointer (some ⟨w.heap.size, 0, none⟩), .pointer (some ⟨w.heap.size + 1, 0, none⟩), undef, undef, .bool false, u9, u10, u11, undef, undef, undef, undef, .slice A n c, .int .i64 (n : Int), .bool false, (.tuple #[.int .i64 x, .int .i64 y, .bool z]), u20, u21, u22, u23, u24, u25, u26, u27, u28, (.int .i64 y), u30, undef, undef, undef, undef, undef, undef, undef, undef, undef, undef, undef, undef, undef, undef, undef, undef, undef, undef, undef, undef, undef, undef, undef, undef, undef, undef, undef, undef, undef, undef, undef], []⟩) rfl ?_ ?_)
        · intro a' w' hC' hK
          subst hK
          subst hC'
          exact ⟨u9, u10, u11, (.tuple #[.int .i64 x, .int .i64 y, .bool z]), u20, u21, u22, u23, u24, u25, u26, u27, u28, (.int .i64 y), u30, by first | rfl | (simp; done) | (simp; exact ⟨rfl, rfl⟩), e0, e1, e2, e3, e4, e5, e7, fun _ => rfl, e9, fun _ => rfl, e11, e12, e13, e14, hB0, hR6⟩
        · exact ⟨(.int .i64 y), fun w' hw' => ⟨rfl, rfl⟩, rfl⟩
      · obtain rfl := e8 (hdep 8 (by kernel_rfl))
        refine wpOp_want rfl rfl (Oper.wp_of_quiet (C := fun w' => w' = wz) (K := fun a' => a' = ⟨#[.agg #[.int .i64 (a 0), .int .i64 (a 1), .int .i64 (a 2), .int .i64 (a 3), .int .i64 (a 4), .int .i64 (a 5)], .agg #[.int .i64 (b 0), .int .i64 (b 1), .int .i64 (b 2), .int .i64 (b 3), .int .i64 (b 4), .int .i64 (b 5)], .int .i64 g, .slice A n c, .pointer (some ⟨w.heap.size, 0, none⟩), .pointer (some ⟨w.heap.size + 1, 0, none⟩), undef, undef, .bool false, u9, u10, u11, undef, undef, undef, undef, .slice A n c, .int .i64 (n : Int), .bool false, (.tuple #[.int .i64 x, .int .i64 y, .bool z]), u20, u21, u22, u23, u24, u25, u26, u27, u28, u29, (.bool z), undef, undef, undef, undef, undef, undef, undef, undef, undef, undef, undef, undef, undef, undef, undef, undef, undef, undef, undef, undef, undef, undef, undef, undef, undef, undef, undef, undef, undef, undef, undef], []⟩) rfl ?_ ?_)
        · intro a' w' hC' hK
          subst hK
          subst hC'
          exact ⟨u9, u10, u11, (.tuple #[.int .i64 x, .int .i64 y, .bool z]), u20, u21, u22, u23, u24, u25, u26, u27, u28, u29, (.bool z), by first | rfl | (simp; done) | (simp; exact ⟨rfl, rfl⟩), e0, e1, e2, e3, e4, e5, e7, fun _ => rfl, e9, e10, fun _ => rfl, e12, e13, e14, hB0, hR6⟩
        · exact ⟨(.bool z), fun w' hw' => ⟨rfl, rfl⟩, rfl⟩
      · obtain rfl := e9 (hdep 9 (by kernel_rfl))
        refine wpOp_want rfl rfl (Oper.wp_of_quiet (C := fun w' => w' = wz) (K := fun a' => a' = ⟨#[.agg #[.int .i64 (a 0), .int .i64 (a 1), .int .i64 (a 2), .int .i64 (a 3), .int .i64 (a 4), .int .i64 (a 5)], .agg #[.int .i64 (b 0), .int .i64 (b 1), .int .i64 (b 2), .int .i64 (b 3), .int .i64 (b 4), .int .i64 (b 5)], .int .i64 g, .slice A n c, .pointer (some ⟨w.heap.size, 0, none⟩), .pointer (some ⟨w.heap.size + 1, 0, none⟩), undef, undef, .bool false, (.int .i64 x), u10, u11, undef, undef, undef, undef, .slice A n c, .int .i64 (n : Int), .bool false, u19, u20, u21, u22, u23, u24, u25, u26, u27, (.int .i64 x), u29, u30, undef, undef, undef, undef, undef, undef, undef, undef, undef, undef, undef, undef, undef, undef, undef, undef, undef, undef, undef, undef, undef, undef, undef, undef, undef, undef, undef, undef, undef, undef, undef], []⟩) rfl ?_ ?_)
        · intro a' w' hC' hK
          subst hK
          subst hC'
          exact ⟨(.int .i64 x), u10, u11, u19, u20, u21, u22, u23, u24, u25, u26, u27, (.int .i64 x), u29, u30, by first | rfl | (simp; done) | (simp; exact ⟨rfl, rfl⟩), e0, e1, e2, e3, e4, e5, e7, e8, fun _ => rfl, e10, e11, fun _ => rfl, e13, e14, hB0, hR6⟩
        · exact BigFrame.quiet_assign _ rfl rfl
      · obtain rfl := e10 (hdep 10 (by kernel_rfl))
        refine wpOp_want rfl rfl (Oper.wp_of_quiet (C := fun w' => w' = wz) (K := fun a' => a' = ⟨#[.agg #[.int .i64 (a 0), .int .i64 (a 1), .int .i64 (a 2), .int .i64 (a 3), .int .i64 (a 4), .int .i64 (a 5)], .agg #[.int .i64 (b 0), .int .i64 (b 1), .int .i64 (b 2), .int .i64 (b 3), .int .i64 (b 4), .int .i64 (b 5)], .int .i64 g, .slice A n c, .pointer (some ⟨w.heap.size, 0, none⟩), .pointer (some ⟨w.heap.size + 1, 0, none⟩), undef, undef, .bool false, u9, (.int .i64 y), u11, undef, undef, undef, undef, .slice A n c, .int .i64 (n : Int), .bool false, u19, u20, u21, u22, u23, u24, u25, u26, u27, u28, (.int .i64 y), u30, undef, undef, undef, undef, undef, undef, undef, undef, undef, undef, undef, undef, undef, undef, undef, undef, undef, undef, undef, undef, undef, undef, undef, undef, undef, undef, undef, undef, undef, undef, undef], []⟩) rfl ?_ ?_)
        · intro a' w' hC' hK
          subst hK
          subst hC'
          exact ⟨u9, (.int .i64 y), u11, u19, u20, u21, u22, u23, u24, u25, u26, u27, u28, (.int .i64 y), u30, by first | rfl | (simp; done) | (simp; exact ⟨rfl, rfl⟩), e0, e1, e2, e3, e4, e5, e7, e8, e9, fun _ => rfl, e11, e12, fun _ => rfl, e14, hB0, hR6⟩
        · exact BigFrame.quiet_assign _ rfl rfl
      · obtain rfl := e11 (hdep 11 (by kernel_rfl))
        refine wpOp_want rfl rfl (Oper.wp_of_quiet (C := fun w' => w' = wz) (K := fun a' => a' = ⟨#[.agg #[.int .i64 (a 0), .int .i64 (a 1), .int .i64 (a 2), .int .i64 (a 3), .int .i64 (a 4), .int .i64 (a 5)], .agg #[.int .i64 (b 0), .int .i64 (b 1), .int .i64 (b 2), .int .i64 (b 3), .int .i64 (b 4), .int .i64 (b 5)], .int .i64 g, .slice A n c, .pointer (some ⟨w.heap.size, 0, none⟩), .pointer (some ⟨w.heap.size + 1, 0, none⟩), undef, undef, .bool false, u9, u10, (.bool z), undef, undef, undef, undef, .slice A n c, .int .i64 (n : Int), .bool false, u19, u20, u21, u22, u23, u24, u25, u26, u27, u28, u29, (.bool z), undef, undef, undef, undef, undef, undef, undef, undef, undef, undef, undef, undef, undef, undef, undef, undef, undef, undef, undef, undef, undef, undef, undef, undef, undef, undef, undef, undef, undef, undef, undef], []⟩) rfl ?_ ?_)
        · intro a' w' hC' hK
          subst hK
          subst hC'
          exact ⟨u9, u10, (.bool z), u19, u20, u21, u22, u23, u24, u25, u26, u27, u28, u29, (.bool z), by first | rfl | (simp; done) | (simp; exact ⟨rfl, rfl⟩), e0, e1, e2, e3, e4, e5, e7, e8, e9, e10, fun _ => rfl, e12, e13, fun _ => rfl, hB0, hR6⟩
        · exact BigFrame.quiet_assign _ rfl rfl
    intro L az wz hL hcl hI
    obtain ⟨u9, u10, u11, u19, u20, u21, u22, u23, u24, u25, u26, u27, u28, u29, u30, rfl, e0, e1, e2, e3, e4, e5, e7, e8, e9, e10, e11, e12, e13, e14, hB0, hR6⟩ := hI
    obtain rfl := e0 (hL 0 (by decide))
    obtain rfl := e1 (hL 1 (by decide))
    obtain rfl := e2 (hL 2 (by decide))
    obtain rfl := e3 (hL 3 (by decide))
    obtain rfl := e4 (hL 4 (by decide))
    obtain rfl := e5 (hL 5 (by decide))
    obtain rfl := e7 (hL 7 (by decide))
    obtain rfl := e8 (hL 8 (by decide))
    obtain rfl := e9 (hL 9 (by decide))
    obtain rfl := e10 (hL 10 (by decide))
    obtain rfl := e11 (hL 11 (by decide))
    obtain rfl := e12 (hL 12 (by decide))
    obtain rfl := e13 (hL 13 (by decide))
    obtain rfl := e14 (hL 14 (by decide))
    obtain ⟨g5, rfl, hA6⟩ := hR6 (hL 6 (by decide))
    clear hcl hL
    have hB := hB.trans (hB0.mono hB.size)
    have hX1 := hX1.up hB0
    have hX2 := hX2.up hB0
    clear hB0
    obtain ⟨w4, hW⟩ : ∃ W, W = wz := ⟨_, rfl⟩
    rw [← hW] at hX1 hX2 hB ⊢
    clear hW
    go_wp2_with fail
    refine (Ht3.out _ (H3.out.up hB)).mono ?_
    rintro e w7 ⟨g8, rfl, hg, hA9, hb⟩
    clear hg
    have hB := nx hB hb
    have hX1 := hX1.up hb
    have hX2 := hX2.up hb
    clear hb
    go_wp2_with fail
    obtain ⟨W10, hW⟩ : ∃ W, W = w7 := ⟨_, rfl⟩
    rw [← hW] at hX1 hX2 hA9 hB ⊢
    clear hW
    refine wp_region_inc (I := fun L az w' => ∃ u13 u14 u15 u33 u34 u35 u36 u37 u38 u39 u40 u41 u42 u43 : Value, az = ⟨#[.agg #[.int .i64 (a 0), .int .i64 (a 1), .int .i64 (a 2), .int .i64 (a 3), .int .i64 (a 4), .int .i64 (a 5)], .agg #[.int .i64 (b 0), .int .i64 (b 1), .int .i64 (b 2), .int .i64 (b 3), .int .i64 (b 4), .int .i64 (b 5)], .int .i64 g, .slice A n c, .pointer (some ⟨w.heap.size, 0, none⟩), .pointer (some ⟨w.heap.size + 1, 0, none⟩), undef, undef, .bool false, .int .i64 x, .int .i64 y, .bool z, .slice (some ⟨g8, 0, none⟩) n n, u13, u14, u15, .slice A n c, .int .i64 (n : Int), .bool false, .tuple #[.int .i64 x, .int .i64 y, .bool z], .agg #[.int .i64 (a 0), .int .i64 (a 1), .int .i64 (a 2), .int .i64 (a 3), .int .i64 (a 4), .int .i64 (a 5)], .agg #[.int .i64 (a 0), .int .i64 (a 1), .int .i64 (a 2), .int .i64 (a 3), .int .i64 (a 4), .int .i64 (a 5)], .agg #[.int .i64 (b 0), .int .i64 (b 1), .int .i64 (b 2), .int .i64 (b 3), .int .i64 (b 4), .int .i64 (b 5)], .agg #[.int .i64 (b 0), .int .i64 (b 1), .int .i64 (b 2), .int .i64 (b 3), .int .i64 (b 4), .int .i64 (b 5)], .int .i64 g, .slice A n c, .slice (some ⟨g5, 0, none⟩) n n, .tuple #[.int .i64 x, .int .i64 y, .bool z], .int .i64 x, .int .i64 y, .bool z, .slice A n c, .slice (some ⟨g8, 0, none⟩) n n, u33, u34, u35, u36, u37, u38, u39, u40, u41, u42, u43, undef, undef, undef, undef, undef, undef, undef, undef, undef, undef, undef, undef, undef, undef, undef, undef, undef, undef], []⟩ ∧ (L 0 = true → u34 = (.agg #[.int .i64 (a 0), .int .i64 (a 1), .int .i64 (a 2), .int .i64 (a 3), .int .i64 (a 4), .int .i64 (a 5)])) ∧ (L 1 = true → u35 = (.agg #[.int .i64 (a 0), .int .i64 (a 1), .int .i64 (a 2), .int .i64 (a 3), .int .i64 (a 4), .int .i64 (a 5)])) ∧ (L 2 = true → u36 = (.agg #[.int .i64 (b 0), .int .i64 (b 1), .int .i64 (b 2), .int .i64 (b 3), .int .i64 (b 4), .int .i64 (b 5)])) ∧ (L 3 = true → u37 = (.agg #[.int .i64 (b 0), .int .i64 (b 1), .int .i64 (b 2), .int .i64 (b 3), .int .i64 (b 4), .int .i64 (b 5)])) ∧ (L 4 = true → u38 = (.int .i64 g)) ∧ (L 5 = true → u39 = (.slice (some ⟨g8, 0, none⟩) n n)) ∧ (L 6 = true → u40 = (.tuple #[.int .i64 x, .int .i64 y, .bool z])) ∧ (L 7 = true → u33 = (.tuple #[.int .i64 x, .int .i64 y, .bool z])) ∧ (L 8 = true → u41 = (.int .i64 x)) ∧ (L 9 = true → u42 = (.int .i64 y)) ∧ (L 10 = true → u43 = (.bool z)) ∧ (L 11 = true → u13 = (.int .i64 x)) ∧ (L 12 = true → u14 = (.int .i64 y)) ∧ (L 13 = true → u15 = (.bool z)) ∧ Below W10.heap.size W10 w') (by kernel_rfl) (by kernel_rfl) ?_ ?_ ?_
    · exact ⟨_, _, _, _, _, _, _, _, _, _, _, _, _, _, rfl, (fun h => by cases h), (fun h => by cases h), (fun h => by cases h), (fun h => by cases h), (fun h => by cases h), (fun h => by cases h), (fun h => by cases h), (fun h => by cases h), (fun h => by cases h), (fun h => by cases h), (fun h => by cases h), (fun h => by cases h), (fun h => by cases h), (fun h => by cases h), ((Below.refl _ W10).drew)⟩
    · intro L az wz i hi hL hdep hcl hI
      obtain ⟨u13, u14, u15, u33, u34, u35, u36, u37, u38, u39, u40, u41, u42, u43, rfl, e0, e1, e2, e3, e4, e5, e6, e7, e8, e9, e10, e11, e12, e13, hB0⟩ := hI
      have hi' : i < 14 := hi
      clear hi
      obtain rfl | rfl | rfl | rfl | rfl | rfl | rfl | rfl | rfl | rfl | rfl | rfl | rfl | rfl : i = 0 ∨ i = 1 ∨ i = 2 ∨ i = 3 ∨ i = 4 ∨ i = 5 ∨ i = 6 ∨ i = 7 ∨ i = 8 ∨ i = 9 ∨ i = 10 ∨ i = 11 ∨ i = 12 ∨ i = 13 := by omega
      · have hXX := hX1.up hB0
        have c0 := hXX.cell 0 (by omega)
        have c1 := hXX.cell 1 (by omega)
        have c2 := hXX.cell 2 (by omega)
        have c3 := hXX.cell 3 (by omega)
        have c4 := hXX.cell 4 (by omega)
        have c5 := hXX.cell 5 (by omega)
        have HB := Lib.hid hB0; clear hB0
        refine wpOp_want rfl rfl ?_
        go_simp
        exact ⟨u13, u14, u15, u33, (.agg #[.int .i64 (a 0), .int .i64 (a 1), .int .i64 (a 2), .int .i64 (a 3), .int .i64 (a 4), .int .i64 (a 5)]), u35, u36, u37, u38, u39, u40, u41, u42, u43, by first | rfl | (simp; done) | (simp; exact ⟨rfl, rfl⟩), fun _ => rfl, e1, e2, e3, e4, e5, e6, e7, e8, e9, e10, e11, e12, e13, HB.out⟩
      · obtain rfl := e0 (hdep 0 (by kernel_rfl))
        have HB := Lib.hid hB0; clear hB0
        refine wpOp_want rfl rfl ?_
        go_simp
        refine (Ht6.out a _).mono ?_
        rintro e w9 ⟨rfl, hb⟩
        go_simp
        exact ⟨u13, u14, u15, u33, (.agg #[.int .i64 (a 0), .int .i64 (a 1), .int .i64 (a 2), .int .i64 (a 3), .int .i64 (a 4), .int .i64 (a 5)]), (.agg #[.int .i64 (a 0), .int .i64 (a 1), .int .i64 (a 2), .int .i64 (a 3), .int .i64 (a 4), .int .i64 (a 5)]), u36, u37, u38, u39, u40, u41, u42, u43, by first | rfl | (simp; done) | (simp; exact ⟨rfl, rfl⟩), fun _ => rfl, fun _ => rfl, e2, e3, e4, e5, e6, e7, e8, e9, e10, e11, e12, e13, HB.out.trans (hb.mono HB.out.size)⟩
      · have hXX := hX2.up hB0
        have c0 := hXX.cell 0 (by omega)
        have c1 := hXX.cell 1 (by omega)
        have c2 := hXX.cell 2 (by omega)
        have c3 := hXX.cell 3 (by omega)
        have c4 := hXX.cell 4 (by omega)
        have c5 := hXX.cell 5 (by omega)
        have HB := Lib.hid hB0; clear hB0
        refine wpOp_want rfl rfl ?_
        go_simp
        exact ⟨u13, u14, u15, u33, u34, u35, (.agg #[.int .i64 (b 0), .int .i64 (b 1), .int .i64 (b 2), .int .i64 (b 3), .int .i64 (b 4), .int .i64 (b 5)]), u37, u38, u39, u40, u41, u42, u43, by first | rfl | (simp; done) | (simp; exact ⟨rfl, rfl⟩), e0, e1, fun _ => rfl, e3, e4, e5, e6, e7, e8, e9, e10, e11, e12, e13, HB.out⟩
      · obtain rfl := e2 (hdep 2 (by kernel_rfl))
        have HB := Lib.hid hB0; clear hB0
        refine wpOp_want rfl rfl ?_
        go_simp
        refine (Ht6.out b _).mono ?_
        rintro e w9 ⟨rfl, hb⟩
        go_simp
        exact ⟨u13, u14, u15, u33, u34, u35, (.agg #[.int .i64 (b 0), .int .i64 (b 1), .int .i64 (b 2), .int .i64 (b 3), .int .i64 (b 4), .int .i64 (b 5)]), (.agg #[.int .i64 (b 0), .int .i64 (b 1), .int .i64 (b 2), .int .i64 (b 3), .int .i64 (b 4), .int .i64 (b 5)]), u38, u39, u40, u41, u42, u43, by first | rfl | (simp; done) | (simp; exact ⟨rfl, rfl⟩), e0, e1, fun _ => rfl, fun _ => rfl, e4, e5, e6, e7, e8, e9, e10, e11, e12, e13, HB.out.trans (hb.mono HB.out.size)⟩
      · refine wpOp_want rfl rfl (Oper.wp_of_quiet (C := fun w' => w' = wz) (K := fun a' => a' = ⟨#[.agg #[.int .i64 (a 0), .int .i64 (a 1), .int .i64 (a 2), .int .i64 (a 3), .int .i64 (a 4), .int .i64 (a 5)], .agg #[.int .i64 (b 0), .int .i64 (b 1), .int .i64 (b 2), .int .i64 (b 3), .int .i64 (b 4), .int .i64 (b 5)], .int .i64 g, .slice A n c, .pointer (some ⟨w.heap.size, 0, none⟩), .pointer (some ⟨w.heap.size + 1, 0, none⟩), undef, undef, .bool false, .int .i64 x, .int .i64 y, .bool z, .slice (some ⟨g8, 0, none⟩) n n, u13, u14, u15, .slice A n c, .int .i64 (n : Int), .bool false, .tuple #[.int .i64 x, .int .i64 y, .bool z], .agg #[.int .i64 (a 0), .int .i64 (a 1), .int .i64 (a 2), .int .i64 (a 3), .int .i64 (a 4), .int .i64 (a 5)], .agg #[.int .i64 (a 0), .int .i64 (a 1), .int .i64 (a 2), .int .i64 (a 3), .int .i64 (a 4), .int .i64 (a 5)], .agg #[.int .i64 (b 0), .int .i64 (b 1), .int .i64 (b 2), .int .i64 (b 3), .int .i64 (b 4), .int .i64 (b 5)], .agg #[.int .i64 (b 0), .int .i64 (b 1), .int .i64 (b 2), .int .i64 (b 3), .int .i64 (b 4), .int .i64 (b 5)], .int .i64 g, .slice A n c, .slice (some ⟨g5, 0, none⟩) n n, .tuple #[.int .i64 x, .int .i64 y, .bool z], .int .i64 x, .int .i64 y, .bool z, .slice A n c, .slice (some ⟨g8, 0, none⟩) n n, u33, u34, u35, u36, u37, (.int .i64 g), u39, u40, u41, u42, u43, undef, undef, undef, undef, undef, undef, undef, undef, undef, undef, undef, undef, undef, undef, undef, undef, undef, undef], []⟩) rfl ?_ ?_)
        · intro a' w' hC' hK
          subst hK
          subst hC'
          exact ⟨u13, u14, u15, u33, u34, u35, u36, u37, (.int .i64 g), u39, u40, u41, u42, u43, by first | rfl | (simp; done) | (simp; exact ⟨rfl, rfl⟩), e0, e1, e2, e3, fun _ => rfl, e5, e6, e7, e8, e9, e10, e11, e12, e13, hB0⟩
        · exact BigFrame.quiet_move _ rfl rfl
      · refine wpOp_want rfl rfl (Oper.wp_of_quiet (C := fun w' => w' = wz) (K := fun a' => a' = ⟨#[.agg #[.int .i64 (a 0), .int .i64 (a 1), .int .i64 (a 2), .int .i64 (a 3), .int .i64 (a 4), .int .i64 (a 5)], .agg #[.int .i64 (b 0), .int .i64 (b 1), .int .i64 (b 2), .int .i64 (b 3), .int .i64 (b 4), .int .i64 (b 5)], .int .i64 g, .slice A n c, .pointer (some ⟨w.heap.size, 0, none⟩), .pointer (some ⟨w.heap.size + 1, 0, none⟩), undef, undef, .bool false, .int .i64 x, .int .i64 y, .bool z, .slice (some ⟨g8, 0, none⟩) n n, u13, u14, u15, .slice A n c, .int .i64 (n : Int), .bool false, .tuple #[.int .i64 x, .int .i64 y, .bool z], .agg #[.int .i64 (a 0), .int .i64 (a 1), .int .i64 (a 2), .int .i64 (a 3), .int .i64 (a 4), .int .i64 (a 5)], .agg #[.int .i64 (a 0), .int .i64 (a 1), .int .i64 (a 2), .int .i64 (a 3), .int .i64 (a 4), .int .i64 (a 5)], .agg #[.int .i64 (b 0), .int .i64 (b 1), .int .i64 (b 2), .int .i64 (b 3), .int .i64 (b 4), .int .i64 (b 5)], .agg #[.int .i64 (b 0), .int .i64 (b 1), .int .i64 (b 2), .int .i64 (b 3), .int .i64 (b 4), .int .i64 (b 5)], .int .i64 g, .slice A n c, .slice (some ⟨g5, 0, none⟩) n n, .tuple #[.int .i64 x, .int .i64 y, .bool z], .int .i64 x, .int .i64 y, .bool z, .slice A n c, .slice (some ⟨g8, 0, none⟩) n n, u33, u34, u35, u36, u37, u38, (.slice (some ⟨g8, 0, none⟩) n n), u40, u41, u42, u43, undef, undef, undef, undef, undef, undef, undef, undef, undef, undef, undef, undef, undef, undef, undef, undef, undef, undef], []⟩) rfl ?_ ?_)
        · intro a' w' hC' hK
          subst hK
          subst hC'
          exact ⟨u13, u14, u15, u33, u34, u35, u36, u37, u38, (.slice (some ⟨g8, 0, none⟩) n n), u40, u41, u42, u43, by first | rfl | (simp; done) | (simp; exact ⟨rfl, rfl⟩), e0, e1, e2, e3, e4, fun _ => rfl, e6, e7, e8, e9, e10, e11, e12, e13, hB0⟩
        · exact BigFrame.quiet_move _ rfl rfl
      · obtain rfl := e1 (hdep 1 (by kernel_rfl))
        obtain rfl := e3 (hdep 3 (by kernel_rfl))
        obtain rfl := e4 (hdep 4 (by kernel_rfl))
        obtain rfl := e5 (hdep 5 (by kernel_rfl))
        have HB := Lib.hid hB0; clear hB0
        refine wpOp_want rfl rfl ?_
        go_simp
        refine (Hi.out _ _ _ (hA9.up HB.out)).mono ?_
        rintro e w9 ⟨rfl, hb⟩
        go_simp
        exact ⟨u13, u14, u15, u33, u34, (.agg #[.int .i64 (a 0), .int .i64 (a 1), .int .i64 (a 2), .int .i64 (a 3), .int .i64 (a 4), .int .i64 (a 5)]), u36, (.agg #[.int .i64 (b 0), .int .i64 (b 1), .int .i64 (b 2), .int .i64 (b 3), .int .i64 (b 4), .int .i64 (b 5)]), (.int .i64 g), (.slice (some ⟨g8, 0, none⟩) n n), (.tuple #[.int .i64 x, .int .i64 y, .bool z]), u41, u42, u43, by first | rfl | (simp; done) | (simp; exact ⟨rfl, rfl⟩), e0, fun _ => rfl, e2, fun _ => rfl, fun _ => rfl, fun _ => rfl, fun _ => rfl, e7, e8, e9, e10, e11, e12, e13, HB.out.trans (hb.mono HB.out.size)⟩
      · obtain rfl := e6 (hdep 6 (by kernel_rfl))
        refine wpOp_want rfl rfl (Oper.wp_of_quiet (C := fun w' => w' = wz) (K := fun a' => a' = ⟨#[.agg #[.int .i64 (a 0), .int .i64 (a 1), .int .i64 (a 2), .int .i64 (a 3), .int .i64 (a 4), .int .i64 (a 5)], .agg #[.int .i64 (b 0), .int .i64 (b 1), .int .i64 (b 2), .int .i64 (b 3), .int .i64 (b 4), .int .i64 (b 5)], .int .i64 g, .slice A n c, .pointer (some ⟨w.heap.size, 0, none⟩), .pointer (some ⟨w.heap.size + 1, 0, none⟩), undef, undef, .bool false, .int .i64 x, .int .i64 y, .bool z, .slice (some ⟨g8, 0, none⟩) n n, u13, u14, u15, .slice A n c, .int .i64 (n : Int), .bool false, .tuple #[.int .i64 x, .int .i64 y, .bool z], .agg #[.int .i64 (a 0), .int .i64 (a 1), .int .i64 (a 2), .int .i64 (a 3), .int .i64 (a 4), .int .i64 (a 5)], .agg #[.int .i64 (a 0), .int .i64 (a 1), .int .i64 (a 2), .int .i64 (a 3), .int .i64 (a 4), .int .i64 (a 5)], .agg #[.int .i64 (b 0), .int .i64 (b 1), .int .i64 (b 2), .int .i64 (b 3), .int .i64 (b 4), .int .i64 (b 5)], .agg #[.int .i64 (b 0), .int .i64 (b 1), .int .i64 (b 2), .int .i64 (b 3), .int .i64 (b 4), .int .i64 (b 5)], .int .i64 g, .slice A n c, .slice (some ⟨g5, 0, none⟩) n n, .tuple #[.int .i64 x, .int .i64 y, .bool z], .int .i64 x, .int .i64 y, .bool z, .slice A n c, .slice (some ⟨g8, 0, none⟩) n n, (.tuple #[.int .i64 x, .int .i64 y, .bool z]), u34, u35, u36, u37, u38, u39, (.tuple #[.int .i64 x, .int .i64 y, .bool z]), u41, u42, u43, undef, undef, undef, undef, undef, undef, undef, undef, undef, undef, undef, undef, undef, undef, undef, undef, undef, undef], []⟩) rfl ?_ ?_)
        · intro a' w' hC' hK
          subst hK
          subst hC'
          exact ⟨u13, u14, u15, (.tuple #[.int .i64 x, .int .i64 y, .bool z]), u34, u35, u36, u37, u38, u39, (.tuple #[.int .i64 x, .int .i64 y, .bool z]), u41, u42, u43, by first | rfl | (simp; done) | (simp; exact ⟨rfl, rfl⟩), e0, e1, e2, e3, e4, e5, fun _ => rfl, fun _ => rfl, e8, e9, e10, e11, e12, e13, hB0⟩
        · exact BigFrame.quiet_move _ rfl rfl
      · obtain rfl := e7 (hdep 7 (by kernel_rfl))
        refine wpOp_want rfl rfl (Oper.wp_of_quiet (C := fun w' => w' = wz) (K := fun a' => a' = ⟨#[.agg #[.int .i64 (a 0), .int .i64 (a 1), .int .i64 (a 2), .int .i64 (a 3), .int .i64 (a 4), .int .i64 (a 5)], .agg #[.int .i64 (b 0), .int .i64 (b 1), .int .i64 (b 2), .int .i64 (b 3), .int .i64 (b 4), .int .i64 (b 5)], .int .i64 g, .slice A n c, .pointer (some ⟨w.heap.size, 0, none⟩), .pointer (some ⟨w.heap.size + 1, 0, none⟩), undef, undef, .bool false, .int .i64 x, .int .i64 y, .bool z, .slice (some ⟨g8, 0, none⟩) n n, u13, u14, u15, .slice A n c, .int .i64 (n : Int), .bool false, .tuple #[.int .i64 x, .int .i64 y, .bool z], .agg #[.int .i64 (a 0), .int .i64 (a 1), .int .i64 (a 2), .int .i64 (a 3), .int .i64 (a 4), .int .i64 (a 5)], .agg #[.int .i64 (a 0), .int .i64 (a 1), .int .i64 (a 2), .int .i64 (a 3), .int .i64 (a 4), .int .i64 (a 5)], .agg #[.int .i64 (b 0), .int .i64 (b 1), .int .i64 (b 2), .int .i64 (b 3), .int .i64 (b 4), .int .i64 (b 5)], .agg #[.int .i64 (b 0), .int .i64 (b 1), .int .i64 (b 2), .int .i64 (b 3), .int .i64 (b 4), .int .i64 (b 5)], .int .i64 g, .slice A n c, .slice (some ⟨g5, 0, none⟩) n n, .tuple #[.int .i64 x, .int .i64 y, .bool z], .int .i64 x, .int .i64 y, .bool z, .slice A n c, .slice (some ⟨g8, 0, none⟩) n n, (.tuple #[.int .i64 x, .int .i64 y, .bool z]), u34, u35, u36, u37, u38, u39, u40, (.int .i64 x), u42, u43, undef, undef, undef, undef, undef, undef, undef, undef, undef, undef, undef, undef, undef, undef, undef, undef, undef, undef], []⟩) rfl ?_ ?_)
        · intro a' w' hC' hK
          subst hK
          subst hC'
          exact ⟨u13, u14, u15, (.tuple #[.int .i64 x, .int .i64 y, .bool z]), u34, u35, u36, u37, u38, u39, u40, (.int .i64 x), u42, u43, by first | rfl | (simp; done) | (simp; exact ⟨rfl, rfl⟩), e0, e1, e2, e3, e4, e5, e6, fun _ => rfl, fun _ => rfl, e9, e10, e11, e12, e13, hB0⟩
        · exact ⟨(.int .i64 x), fun w' hw' => ⟨rfl, rfl⟩, rfl⟩
      · obtain rfl := e7 (hdep 7 (by kernel_rfl))
        refine wpOp_want rfl rfl (Oper.wp_of_quiet (C := fun w' => w' = wz) (K := fun a' => a' = ⟨#[.agg #[.int .i64 (a 0), .int .i64 (a 1), .int .i64 (a 2), .int .i64 (a 3), .int .i64 (a 4), .int .i64 (a 5)], .agg #[.int .i64 (b 0), .int .i64 (b 1), .int .i64 (b 2), .int .i64 (b 3), .int .i64 (b 4), .int .i64 (b 5)], .int .i64 g, .slice A n c, .pointer (some ⟨w.heap.size, 0, none⟩), .pointer (some ⟨w.heap.size + 1, 0, none⟩), undef, undef, .bool false, .int .i64 x, .int .i64 y, .bool z, .slice (some ⟨g8, 0, none⟩) n n, u13, u14, u15, .slice A n c, .int .i64 (n : Int), .bool false, .tuple #[.int .i64 x, .int .i64 y, .bool z], .agg #[.int .i64 (a 0), .int .i64 (a 1), .int .i64 (a 2), .int .i64 (a 3), .int .i64 (a 4), .int .i64 (a 5)], .agg #[.int .i64 (a 0), .int .i64 (a 1), .int .i64 (a 2), .int .i64 (a 3), .int .i64 (a 4), .int .i64 (a 5)], .agg #[.int .i64 (b 0), .int .i64 (b 1), .int .i64 (b 2), .int .i64 (b 3), .int .i64 (b 4), .int .i64 (b 5)], .agg #[.int .i64 (b 0), .int .i64 (b 1), .int .i64 (b 2), .int .i64 (b 3), .int .i64 (b 4), .int .i64 (b 5)], .int .i64 g, .slice A n c, .slice (some ⟨g5, 0, none⟩) n n, .tuple #[.int .i64 x, .int .i64 y, .bool z], .int .i64 x, .int .i64 y, .bool z, .slice A n c, .slice (some ⟨g8, 0, none⟩) n n, (.tuple #[.int .i64 x, .int .i64 y, .bool z]), u34, u35, u36, u37, u38, u39, u40, u41, (.int .i64 y), u43, undef, undef, undef, undef, undef, undef, undef, undef, undef, undef, undef, undef, undef, undef, undef, undef, undef, undef], []⟩) rfl ?_ ?_)
        · intro a' w' hC' hK
          subst hK
          subst hC'
          exact ⟨u13, u14, u15, (.tuple #[.int .i64 x, .int .i64 y, .bool z]), u34, u35, u36, u37, u38, u39, u40, u41, (.int .i64 y), u43, by first | rfl | (simp; done) | (simp; exact ⟨rfl, rfl⟩), e0, e1, e2, e3, e4, e5, e6, fun _ => rfl, e8, fun _ => rfl, e10, e11, e12, e13, hB0⟩
        · exact ⟨(.int .i64 y), fun w' hw' => ⟨rfl, rfl⟩, rfl⟩
      · obtain rfl := e7 (hdep 7 (by kernel_rfl))
        refine wpOp_want rfl rfl (Oper.wp_of_quiet (C := fun w' => w' = wz) (K := fun a' => a' = ⟨#[.agg #[.int .i64 (a 0), .int .i64 (a 1), .int .i64 (a 2), .int .i64 (a 3), .int .i64 (a 4), .int .i64 (a 5)], .agg #[.int .i64 (b 0), .int .i64 (b 1), .int .i64 (b 2), .int .i64 (b 3), .int .i64 (b 4), .int .i64 (b 5)], .int .i64 g, .slice A n c, .pointer (some ⟨w.heap.size, 0, none⟩), .pointer (some ⟨w.heap.size + 1, 0, none⟩), undef, undef, .bool false, .int .i64 x, .int .i64 y, .bool z, .slice (some ⟨g8, 0, none⟩) n n, u13, u14, u15, .slice A n c, .int .i64 (n : Int), .bool false, .tuple #[.int .i64 x, .int .i64 y, .bool z], .agg #[.int .i64 (a 0), .int .i64 (a 1), .int .i64 (a 2), .int .i64 (a 3), .int .i64 (a 4), .int .i64 (a 5)], .agg #[.int .i64 (a 0), .int .i64 (a 1), .int .i64 (a 2), .int .i64 (a 3), .int .i64 (a 4), .int .i64 (a 5)], .agg #[.int .i64 (b 0), .int .i64 (b 1), .int .i64 (b 2), .int .i64 (b 3), .int .i64 (b 4), .int .i64 (b 5)], .agg #[.int .i64 (b 0), .int .i64 (b 1), .int .i64 (b 2), .int .i64 (b 3), .int .i64 (b 4), .int .i64 (b 5)], .int .i64 g, .slice A n c, .slice (some ⟨g5, 0, none⟩) n n, .tuple #[.int .i64 x, .int .i64 y, .bool z], .int .i64 x, .int .i64 y, .bool z, .slice A n c, .slice (some ⟨g8, 0, none⟩) n n, (.tuple #[.int .i64 x, .int .i64 y, .bool z]), u34, u35, u36, u37, u38, u39, u40, u41, u42, (.bool z), undef, undef, undef, undef, undef, undef, undef, undef, undef, undef, undef, undef, undef, undef, undef, undef, undef, undef], []⟩) rfl ?_ ?_)
        · intro a' w' hC' hK
          subst hK
          subst hC'
          exact ⟨u13, u14, u15, (.tuple #[.int .i64 x, .int .i64 y, .bool z]), u34, u35, u36, u37, u38, u39, u40, u41, u42, (.bool z), by first | rfl | (simp; done) | (simp; exact ⟨rfl, rfl⟩), e0, e1, e2, e3, e4, e5, e6, fun _ => rfl, e8, e9, fun _ => rfl, e11, e12, e13, hB0⟩
        · exact ⟨(.bool z), fun w' hw' => ⟨rfl, rfl⟩, rfl⟩
      · obtain rfl := e8 (hdep 8 (by kernel_rfl))
        refine wpOp_want rfl rfl (Oper.wp_of_quiet (C := fun w' => w' = wz) (K := fun a' => a' = ⟨#[.agg #[.int .i64 (a 0), .int .i64 (a 1), .int .i64 (a 2), .int .i64 (a 3), .int .i64 (a 4), .int .i64 (a 5)], .agg #[.int .i64 (b 0), .int .i64 (b 1), .int .i64 (b 2), .int .i64 (b 3), .int .i64 (b 4), .int .i64 (b 5)], .int .i64 g, .slice A n c, .pointer (some ⟨w.heap.size, 0, none⟩), .pointer (some ⟨w.heap.size + 1, 0, none⟩), undef, undef, .bool false, .int .i64 x, .int .i64 y, .bool z, .slice (some ⟨g8, 0, none⟩) n n, (.int .i64 x), u14, u15, .slice A n c, .int .i64 (n : Int), .bool false, .tuple #[.int .i64 x, .int .i64 y, .bool z], .agg #[.int .i64 (a 0), .int .i64 (a 1), .int .i64 (a 2), .int .i64 (a 3), .int .i64 (a 4), .int .i64 (a 5)], .agg #[.int .i64 (a 0), .int .i64 (a 1), .int .i64 (a 2), .int .i64 (a 3), .int .i64 (a 4), .int .i64 (a 5)], .agg #[.int .i64 (b 0), .int .i64 (b 1), .int .i64 (b 2), .int .i64 (b 3), .int .i64 (b 4), .int .i64 (b 5)], .agg #[.int .i64 (b 0), .int .i64 (b 1), .int .i64 (b 2), .int .i64 (b 3), .int .i64 (b 4), .int .i64 (b 5)], .int .i64 g, .slice A n c, .slice (some ⟨g5, 0, none⟩) n n, .tuple #[.int .i64 x, .int .i64 y, .bool z], .int .i64 x, .int .i64 y, .bool z, .slice A n c, .slice (some ⟨g8, 0, none⟩) n n, u33, u34, u35, u36, u37, u38, u39, u40, (.int .i64 x), u42, u43, undef, undef, undef, undef, undef, undef, undef, undef, undef, undef, undef, undef, undef, undef, undef, undef, undef, undef], []⟩) rfl ?_ ?_)
        · intro a' w' hC' hK
          subst hK
          subst hC'
          exact ⟨(.int .i64 x), u14, u15, u33, u34, u35, u36, u37, u38, u39, u40, (.int .i64 x), u42, u43, by first | rfl | (simp; done) | (simp; exact ⟨rfl, rfl⟩), e0, e1, e2, e3, e4, e5, e6, e7, fun _ => rfl, e9, e10, fun _ => rfl, e12, e13, hB0⟩
        · exact BigFrame.quiet_assign _ rfl rfl
      · obtain rfl := e9 (hdep 9 (by kernel_rfl))
        refine wpOp_want rfl rfl (Oper.wp_of_quiet (C := fun w' => w' = wz) (K := fun a' => a' = ⟨#[.agg #[.int .i64 (a 0), .int .i64 (a 1), .int .i64 (a 2), .int .i64 (a 3), .int .i64 (a 4), .int .i64 (a 5)], .agg #[.int .i64 (b 0), .int .i64 (b 1), .int .i64 (b 2), .int .i64 (b 3), .int .i64 (b 4), .int .i64 (b 5)], .int .i64 g, .slice A n c, .pointer (some ⟨w.heap.size, 0, none⟩), .pointer (some ⟨w.heap.size + 1, 0, none⟩), undef, undef, .bool false, .int .i64 x, .int .i64 y, .bool z, .slice (some ⟨g8, 0, none⟩) n n, u13, (.int .i64 y), u15, .slice A n c, .int .i64 (n : Int), .bool false, .tuple #[.int .i64 x, .int .i64 y, .bool z], .agg #[.int .i64 (a 0), .int .i64 (a 1), .int .i64 (a 2), .int .i64 (a 3), .int .i64 (a 4), .int .i64 (a 5)], .agg #[.int .i64 (a 0), .int .i64 (a 1), .int .i64 (a 2), .int .i64 (a 3), .int .i64 (a 4), .int .i64 (a 5)], .agg #[.int .i64 (b 0), .int .i64 (b 1), .int .i64 (b 2), .int .i64 (b 3), .int .i64 (b 4), .int .i64 (b 5)], .agg #[.int .i64 (b 0), .int .i64 (b 1), .int .i64 (b 2), .int .i64 (b 3), .int .i64 (b 4), .int .i64 (b 5)], .int .i64 g, .slice A n c, .slice (some ⟨g5, 0, none⟩) n n, .tuple #[.int .i64 x, .int .i64 y, .bool z], .int .i64 x, .int .i64 y, .bool z, .slice A n c, .slice (some ⟨g8, 0, none⟩) n n, u33, u34, u35, u36, u37, u38, u39, u40, u41, (.int .i64 y), u43, undef, undef, undef, undef, undef, undef, undef, undef, undef, undef, undef, undef, undef, undef, undef, undef, undef, undef], []⟩) rfl ?_ ?_)
        · intro a' w' hC' hK
          subst hK
          subst hC'
          exact ⟨u13, (.int .i64 y), u15, u33, u34, u35, u36, u37, u38, u39, u40, u41, (.int .i64 y), u43, by first | rfl | (simp; done) | (simp; exact ⟨rfl, rfl⟩), e0, e1, e2, e3, e4, e5, e6, e7, e8, fun _ => rfl, e10, e11, fun _ => rfl, e13, hB0⟩
        · exact BigFrame.quiet_assign _ rfl rfl
      · obtain rfl := e10 (hdep 10 (by kernel_rfl))
        refine wpOp_want rfl rfl (Oper.wp_of_quiet (C := fun w' => w' = wz) (K := fun a' => a' = ⟨#[.agg #[.int .i64 (a 0), .int .i64 (a 1), .int .i64 (a 2), .int .i64 (a 3), .int .i64 (a 4), .int .i64 (a 5)], .agg #[.int .i64 (b 0), .int .i64 (b 1), .int .i64 (b 2), .int .i64 (b 3), .int .i64 (b 4), .int .i64 (b 5)], .int .i64 g, .slice A n c, .pointer (some ⟨w.heap.size, 0, none⟩), .pointer (some ⟨w.heap.size + 1, 0, none⟩), undef, undef, .bool false, .int .i64 x, .int .i64 y, .bool z, .slice (some ⟨g8, 0, none⟩) n n, u13, u14, (.bool z), .slice A n c, .int .i64 (n : Int), .bool false, .tuple #[.int .i64 x, .int .i64 y, .bool z], .agg #[.int .i64 (a 0), .int .i64 (a 1), .int .i64 (a 2), .int .i64 (a 3), .int .i64 (a 4), .int .i64 (a 5)], .agg #[.int .i64 (a 0), .int .i64 (a 1), .int .i64 (a 2), .int .i64 (a 3), .int .i64 (a 4), .int .i64 (a 5)], .agg #[.int .i64 (b 0), .int .i64 (b 1), .int .i64 (b 2), .int .i64 (b 3), .int .i64 (b 4), .int .i64 (b 5)], .agg #[.int .i64 (b 0), .int .i64 (b 1), .int .i64 (b 2), .int .i64 (b 3), .int .i64 (b 4), .int .i64 (b 5)], .int .i64 g, .slice A n c, .slice (some ⟨g5, 0, none⟩) n n, .tuple #[.int .i64 x, .int .i64 y, .bool z], .int .i64 x, .int .i64 y, .bool z, .slice A n c, .slice (some ⟨g8, 0, none⟩) n n, u33, u34, u35, u36, u37, u38, u39, u40, u41, u42, (.bool z), undef, undef, undef, undef, undef, undef, undef, undef, undef, undef, undef, undef, undef, undef, undef, undef, undef, undef], []⟩) rfl ?_ ?_)
        · intro a' w' hC' hK
          subst hK
          subst hC'
          exact ⟨u13, u14, (.bool z), u33, u34, u35, u36, u37, u38, u39, u40, u41, u42, (.bool z), by first | rfl | (simp; done) | (simp; exact ⟨rfl, rfl⟩), e0, e1, e2, e3, e4, e5, e6, e7, e8, e9, fun _ => rfl, e11, e12, fun _ => rfl, hB0⟩
        · exact BigFrame.quiet_assign _ rfl rfl
    intro L az wz hL hcl hI
    obtain ⟨u13, u14, u15, u33, u34, u35, u36, u37, u38, u39, u40, u41, u42, u43, rfl, e0, e1, e2, e3, e4, e5, e6, e7, e8, e9, e10, e11, e12, e13, hB0⟩ := hI
    obtain rfl := e0 (hL 0 (by decide))
    obtain rfl := e1 (hL 1 (by decide))
    obtain rfl := e2 (hL 2 (by decide))
    obtain rfl := e3 (hL 3 (by decide))
    obtain rfl := e4 (hL 4 (by decide))
    obtain rfl := e5 (hL 5 (by decide))
    obtain rfl := e6 (hL 6 (by decide))
    obtain rfl := e7 (hL 7 (by decide))
    obtain rfl := e8 (hL 8 (by decide))
    obtain rfl := e9 (hL 9 (by decide))
    obtain rfl := e10 (hL 10 (by decide))
    obtain rfl := e11 (hL 11 (by decide))
    obtain rfl := e12 (hL 12 (by decide))
    obtain rfl := e13 (hL 13 (by decide))
    clear hcl hL
    have hB := hB.trans (hB0.mono hB.size)
    have hX1 := hX1.up hB0
    have hX2 := hX2.up hB0
    have hA9 := hA9.up hB0
    clear hB0
    obtain ⟨w11, hW⟩ : ∃ W, W = wz := ⟨_, rfl⟩
    rw [← hW] at hX1 hX2 hA9 hB ⊢
    clear hW
    cases z
    all_goals
      go_wp2_with fail
      refine (Ht3.out _ (H3.out.up hB)).mono ?_
      rintro e w12 ⟨g13, rfl, hg, hA14, hb⟩
      clear hg
      have hB := nx hB hb
      have hX1 := hX1.up hb
      have hX2 := hX2.up hb
      have hA9 := hA9.up hb
      clear hb
      go_wp2_with fail
      refine (HqS3.out _ _ _ _ _ hA9 hA14).mono ?_
      rintro e w15 ⟨rfl, hb⟩
      have hB := nx hB hb
      have hX1 := hX1.up hb
      have hX2 := hX2.up hb
      have hA9 := hA9.up hb
      have hA14 := hA14.up hb
      clear hb
      go_wp2_with fail
      go_ret
      exact ⟨rfl, hB⟩
  · have hgd : decide ((1048576 : Int) < (n : Int)) = true := decide_eq_true (by omega)
    have hgdN : decide (1048576 < n) = true := decide_eq_true (by omega)
    clear hbig hR
    unfold dv
    go_enter Try.func14, Try.ntmps14
    go_wp2_with fail
    go_ret
    exact ⟨rfl, na (na (n0 w) _) _⟩

theorem laidOut : laidOutB Try.prog = true := by kernel_rfl
set_option maxRecDepth 100000 in
/-- What the walk gives, for every argument. -/
theorem contract (H : Type) (enc : TypeId × Value → H) (W : World) (base : Nat) (args : Array Value) (ds gs : List (DataW H)) (before : List MemPlace)
    (hval : ∀ (j : Nat) t v, Try.f14.params[j]? = some t → args[j]? = some v → Value.okWide Try.prog W .any base t v)
    (hW : DataW.Whole enc Try.prog Try.f14.params.toList Rows.fnExactPlayRaceSpec.vars false W args.toList ds gs before) :
    Calls Try.prog 14 args W fun e W' => ∃ v, e = .returned v ∧ Rows.fnExactPlayRaceSpec.post enc Try.prog Try.f14 false true false false W args v W' := by
  have hW' := hW
  obtain ⟨p, q, hA0, hV, rfl, hfz, hnd⟩ := hW
  have hA : DataW.TrodAll enc Try.prog W 0 (fun _ => true) true Try.f14.params.toList args.toList ds p := hA0
  rw [Try.params14] at hA hval
  obtain ⟨v0, vs0, d0, ds0, p0, q0, hargs, rfl, rfl, h0, r0⟩ := trodAll_cons hA
  obtain ⟨v1, vs1, d1, ds1, p1, q1, rfl, rfl, rfl, h1, r1⟩ := trodAll_cons r0
  obtain ⟨v2, vs2, d2, ds2, p2, q2, rfl, rfl, rfl, h2, r2⟩ := trodAll_cons r1
  obtain ⟨v3, vs3, d3, ds3, p3, q3, rfl, rfl, rfl, h3, r3⟩ := trodAll_cons r2
  obtain ⟨rfl, rfl, rfl⟩ := trodAll_nil r3
  obtain rfl : args = #[v0, v1, v2, v3] := by cases args; simp_all
  obtain ⟨rfl, rfl⟩ := trodVars_none hV
  obtain ⟨a0, rfl, w0⟩ := OpenD.die_of (hval 0 22 v0 rfl rfl) h0
  have k0 := h0
  have lt0 : ∀ x ∈ p0, x.block < W.heap.size := fun x hx => by have := hW'.lt x (by simp [hx]); simpa using this
  obtain ⟨a1, rfl, w1⟩ := OpenD.die_of (hval 1 22 v1 rfl rfl) h1
  have k1 := h1
  have lt1 : ∀ x ∈ p1, x.block < W.heap.size := fun x hx => by have := hW'.lt x (by simp [hx]); simpa using this
  obtain ⟨a2, rfl, rfl, rfl, wf2⟩ := open_int Try.underlying3 (hval 2 3 v2 rfl rfl) h2
  have w2 : -9223372036854775808 ≤ a2 ∧ a2 ≤ 9223372036854775807 := by simpa [Lit.wf, IntKind.min, IntKind.max, IntKind.bits, IntKind.signed] using wf2
  obtain ⟨A3, n3, c3, rfl⟩ := okWide_slice Try.underlying51 (hval 3 51 v3 rfl rfl)
  have k3 := h3
  have lt3 : ∀ x ∈ p3, x.block < W.heap.size := fun x hx => by have := hW'.lt x (by simp [hx]); simpa using this
  obtain ⟨fu3, hf3⟩ := h3
  obtain ⟨a3, ht3, hc3, hm3, w3⟩ := OpenG.ints_of hf3 lt3
  clear hA0
  simp only [List.append_nil] at hW'
  refine (law_any a0 a1 a2 A3 n3 c3 a3 W ht3 hc3 hm3).mono fun e W' ⟨he, hg⟩ => ?_
  subst he
  exact ⟨_, rfl, _, _, _, [], (p0 ++ (p1 ++ ([] ++ (p3 ++ [])))), [], hW', trodAll_cons_mk (shut_bool Try.underlying4 _) trodAll_mk0, trodAll_cons_mk (Below.trod laidOut (by kernel_rfl) (of_decide_eq_true (by kernel_rfl)) k0 hg lt0) (trodAll_cons_mk (Below.trod laidOut (by kernel_rfl) (of_decide_eq_true (by kernel_rfl)) k1 hg lt1) (trodAll_cons_mk (shut_int Try.underlying3 wf2) (trodAll_cons_mk (Below.trod laidOut (by kernel_rfl) (of_decide_eq_true (by kernel_rfl)) k3 hg lt3) trodAll_mk0))), rfl, hg.frame _, fun h => by cases h⟩

theorem own : ownKnob Try.prog.godebug = none := by kernel_rfl

set_option maxRecDepth 100000 in
theorem lifted (os : Os) (started : os.Started) (H : Type) (enc : TypeId × Value → H) :
    ReturnsInHanded {} Try.checked os 14 .any (Rows.fnExactPlayRaceSpec.pre6 enc Try.prog Try.f14 Rows.fnExactPlayRaceRow.domain false) (Rows.fnExactPlayRaceSpec.post enc Try.prog Try.f14 false true false false) := by
  refine returnsInHanded_of_change (C := Try.checked) own started (by kernel_rfl) Try.func14
    (ChangeSpec.witness6 (enc := enc) (C := Try.checked) false ⟨#[], #[.agg #[.int .i64 0, .int .i64 0, .int .i64 0, .int .i64 0, .int .i64 0, .int .i64 0], .agg #[.int .i64 0, .int .i64 0, .int .i64 0, .int .i64 0, .int .i64 0, .int .i64 0], .int .i64 0, .slice none 0 0], []⟩ 8 (by kernel_rfl) (by kernel_rfl) (by kernel_rfl) (by kernel_rfl)) ?_
  intro W base args ds gs before hval hW _ _
  exact contract H enc W base args ds gs before hval hW

theorem holds : Rows.FnExactPlayRaceSaid :=
  OpenClaim.holds_of_wide 14 Try.f14 rfl rfl rfl rfl rfl rfl rfl ⟨rfl, rfl, rfl, rfl, rfl⟩ rfl rfl rfl rfl rfl (by kernel_rfl) Try.func14 (by kernel_rfl)
    (of_decide_eq_true (by kernel_rfl)) (by unfold Func.isWrapper; rw [if_neg (by decide +kernel)]; exact ⟨rfl, rfl⟩)
    (fun os started H enc _ => lifted os started H enc)

end PlayRaceP
end Go.Proofs.Ytcffglnfdnanhaa
