/-
  FnExactFirstWins: for every two arrays of six numbers and every goal the law returns true. No condition.
-/
import Derived.Test.YtcffglnfdnanhaaRows
import Derived.Test.YtcffglnfdnanhaaArr
import Derived.Test.YtcffglnfdnanhaaAnyR
import Derived.Test.YtcffglnfdnanhaaDieW
import Derived.Test.YtcffglnfdnanhaaSortW
import Derived.Test.YtcffglnfdnanhaaFracW
import Derived.Test.YtcffglnfdnanhaaFracL
import Derived.Test.YtcffglnfdnanhaaCutW
import Derived.Test.YtcffglnfdnanhaaAll6
import Derived.Test.YtcffglnfdnanhaaAllL
import Derived.Test.YtcffglnfdnanhaaOwnL
import Derived.Test.YtcffglnfdnanhaaFracM
import Derived.Test.YtcffglnfdnanhaaStopM
import Derived.Test.YtcffglnfdnanhaaRunM
import Derived.Test.YtcffglnfdnanhaaRunI
import Derived.Test.YtcffglnfdnanhaaRunS
import Derived.Test.YtcffglnfdnanhaaRunW
import Derived.Test.YtcffglnfdnanhaaRaceM
import Derived.Test.YtcffglnfdnanhaaRaceW
import Derived.Test.YtcffglnfdnanhaaRaces
import Derived.Test.YtcffglnfdnanhaaOpenD
import Derived.Test.YtcffglnfdnanhaaOpenD
import Derived.WalkKit
import Derived.WalkLawsBesides
import Derived.WalkSpells
import Derived.ProofKit
import Derived.OpenShut
import Derived.Deep.RegionWith
import Derived.Deep.QuietTactic
import Derived.BigQuiet
namespace Go.Proofs.Ytcffglnfdnanhaa
open Go.ChangeShapes Go.WideShapes Go.ChangeAt Go.RowKit
open Go.ChangeMaps (open_string shut_string)

namespace FirstWinsP
open Dice Arr DieW SortW FracW CutW All6 AllL OwnL FracM StopM RunM RunI RunS RunW AnyR RaceM RaceW Races OpenD

theorem At.newv (x y : Int) (w : World) : At (w.alloc (.cells #[.int .i64 x, .int .i64 y] 30)) w.heap.size 2 (fr x y) :=
  At.new w _ _ 2 _ fun k hk => by
    obtain rfl | rfl : k = 0 ∨ k = 1 := by omega
    all_goals rfl
set_option maxRecDepth 20000 in
set_option maxHeartbeats 8000000 in
theorem law_any (a : Nat → Int) (b : Nat → Int) (g : Int) (w : World)  :
    Calls Try.prog 6 #[dv a, dv b, .int .i64 g] w fun e w' => e = .returned (.bool true) ∧ Below w.heap.size w w' := by
  have ht6 := toA6_any
  unfold dv at ht6
  have Ht6 := Lib.hid ht6; clear ht6
  have hs := fun w => specFirstWins_any a b g w
  have hi := fun w => implFirstWins_any a b g w
  generalize firstx a b g = x at hs hi
  generalize firsty a b g = y at hs hi
  generalize okF a b g = z at hs hi
  unfold dv at hs hi
  have Hs := Lib.hid hs; clear hs
  have Hi := Lib.hid hi; clear hi
  have Hq0 := Lib.hid (fun w => eqA2_any x y w)
  have hB := n0 w
  unfold dv
  go_enter Try.func6, Try.ntmps6
  have hX1 := (At.new6 w a 22 (b := w.heap.size) rfl)
  have hB := na hB (sixO a 22)
  have hX2 := (At.new6 (w.alloc (sixO a 22)) b 22 (b := w.heap.size + 1) (by rw [size_alloc]))
  have hX1 := hX1.past (sixO b 22)
  have hB := na hB (sixO b 22)
  go_wp2_with fail
  obtain ⟨W3, hW⟩ : ∃ W, W = ((w.alloc (sixO a 22)).alloc (sixO b 22)) := ⟨_, rfl⟩
  rw [← hW] at hX1 hX2 hB ⊢
  clear hW
  refine wp_region_inc (I := fun L az w' => ∃ u7 u8 u11 u12 u13 u14 u15 u16 u17 u18 u19 : Value, az = ⟨#[.agg #[.int .i64 (a 0), .int .i64 (a 1), .int .i64 (a 2), .int .i64 (a 3), .int .i64 (a 4), .int .i64 (a 5)], .agg #[.int .i64 (b 0), .int .i64 (b 1), .int .i64 (b 2), .int .i64 (b 3), .int .i64 (b 4), .int .i64 (b 5)], .int .i64 g, .pointer (some ⟨w.heap.size, 0, none⟩), .pointer (some ⟨w.heap.size + 1, 0, none⟩), undef, .bool false, u7, u8, undef, undef, u11, u12, u13, u14, u15, u16, u17, u18, u19, undef, undef, undef, undef, undef, undef, undef, undef, undef, undef, undef, undef, undef, undef, undef, undef, undef, undef], []⟩ ∧ (L 0 = true → u12 = (.agg #[.int .i64 (a 0), .int .i64 (a 1), .int .i64 (a 2), .int .i64 (a 3), .int .i64 (a 4), .int .i64 (a 5)])) ∧ (L 1 = true → u13 = (.agg #[.int .i64 (a 0), .int .i64 (a 1), .int .i64 (a 2), .int .i64 (a 3), .int .i64 (a 4), .int .i64 (a 5)])) ∧ (L 2 = true → u14 = (.agg #[.int .i64 (b 0), .int .i64 (b 1), .int .i64 (b 2), .int .i64 (b 3), .int .i64 (b 4), .int .i64 (b 5)])) ∧ (L 3 = true → u15 = (.agg #[.int .i64 (b 0), .int .i64 (b 1), .int .i64 (b 2), .int .i64 (b 3), .int .i64 (b 4), .int .i64 (b 5)])) ∧ (L 4 = true → u16 = (.int .i64 g)) ∧ (L 5 = true → u17 = (.tuple #[.agg #[.int .i64 x, .int .i64 y], .bool z])) ∧ (L 6 = true → u11 = (.tuple #[.agg #[.int .i64 x, .int .i64 y], .bool z])) ∧ (L 7 = true → u18 = (.agg #[.int .i64 x, .int .i64 y])) ∧ (L 8 = true → u19 = (.bool z)) ∧ (L 11 = true → u8 = (.bool z)) ∧ Below W3.heap.size W3 w' ∧ (L 9 = true → ∃ q, u7 = .pointer (some ⟨q, 0, none⟩) ∧ W3.heap.size ≤ q ∧ At w' q 2 (fun k => if L 10 = true then (fr x y) k else 0))) (by kernel_rfl) (by kernel_rfl) ?_ ?_ ?_
  · exact ⟨_, _, _, _, _, _, _, _, _, _, _, rfl, (fun h => by cases h), (fun h => by cases h), (fun h => by cases h), (fun h => by cases h), (fun h => by cases h), (fun h => by cases h), (fun h => by cases h), (fun h => by cases h), (fun h => by cases h), (fun h => by cases h), ((Below.refl _ W3).drew), (fun h => by cases h)⟩
  · intro L az wz i hi hL hdep hcl hI
    obtain ⟨u7, u8, u11, u12, u13, u14, u15, u16, u17, u18, u19, rfl, e0, e1, e2, e3, e4, e5, e6, e7, e8, e11, hB0, hA0⟩ := hI
    have hi' : i < 12 := hi
    clear hi
    obtain rfl | rfl | rfl | rfl | rfl | rfl | rfl | rfl | rfl | rfl | rfl | rfl : i = 0 ∨ i = 1 ∨ i = 2 ∨ i = 3 ∨ i = 4 ∨ i = 5 ∨ i = 6 ∨ i = 7 ∨ i = 8 ∨ i = 9 ∨ i = 10 ∨ i = 11 := by omega
    · have hXX := hX1.up hB0
      have c0 := hXX.cell 0 (by omega)
      have c1 := hXX.cell 1 (by omega)
      have c2 := hXX.cell 2 (by omega)
      have c3 := hXX.cell 3 (by omega)
      have c4 := hXX.cell 4 (by omega)
      have c5 := hXX.cell 5 (by omega)
      have HB := Lib.hid hB0; clear hB0
      refine wpOp_want rfl rfl ?_
      go_simp
      exact ⟨u7, u8, u11, (.agg #[.int .i64 (a 0), .int .i64 (a 1), .int .i64 (a 2), .int .i64 (a 3), .int .i64 (a 4), .int .i64 (a 5)]), u13, u14, u15, u16, u17, u18, u19, by first | rfl | (simp; done) | (simp; exact ⟨rfl, rfl⟩), fun _ => rfl, e1, e2, e3, e4, e5, e6, e7, e8, e11, HB.out, hA0⟩
    · obtain rfl := e0 (hdep 0 (by kernel_rfl))
      have HB := Lib.hid hB0; clear hB0
      refine wpOp_want rfl rfl ?_
      go_simp
      refine (Ht6.out a _).mono ?_
      rintro e w9 ⟨rfl, hb⟩
      go_simp
      exact ⟨u7, u8, u11, (.agg #[.int .i64 (a 0), .int .i64 (a 1), .int .i64 (a 2), .int .i64 (a 3), .int .i64 (a 4), .int .i64 (a 5)]), (.agg #[.int .i64 (a 0), .int .i64 (a 1), .int .i64 (a 2), .int .i64 (a 3), .int .i64 (a 4), .int .i64 (a 5)]), u14, u15, u16, u17, u18, u19, by first | rfl | (simp; done) | (simp; exact ⟨rfl, rfl⟩), fun _ => rfl, fun _ => rfl, e2, e3, e4, e5, e6, e7, e8, e11, HB.out.trans (hb.mono HB.out.size), (fun h1 => by obtain ⟨q, e, hq, hA⟩ := hA0 h1; exact ⟨q, e, hq, hA.up hb⟩)⟩
    · have hXX := hX2.up hB0
      have c0 := hXX.cell 0 (by omega)
      have c1 := hXX.cell 1 (by omega)
      have c2 := hXX.cell 2 (by omega)
      have c3 := hXX.cell 3 (by omega)
      have c4 := hXX.cell 4 (by omega)
      have c5 := hXX.cell 5 (by omega)
      have HB := Lib.hid hB0; clear hB0
      refine wpOp_want rfl rfl ?_
      go_simp
      exact ⟨u7, u8, u11, u12, u13, (.agg #[.int .i64 (b 0), .int .i64 (b 1), .int .i64 (b 2), .int .i64 (b 3), .int .i64 (b 4), .int .i64 (b 5)]), u15, u16, u17, u18, u19, by first | rfl | (simp; done) | (simp; exact ⟨rfl, rfl⟩), e0, e1, fun _ => rfl, e3, e4, e5, e6, e7, e8, e11, HB.out, hA0⟩
    · obtain rfl := e2 (hdep 2 (by kernel_rfl))
      have HB := Lib.hid hB0; clear hB0
      refine wpOp_want rfl rfl ?_
      go_simp
      refine (Ht6.out b _).mono ?_
      rintro e w9 ⟨rfl, hb⟩
      go_simp
      exact ⟨u7, u8, u11, u12, u13, (.agg #[.int .i64 (b 0), .int .i64 (b 1), .int .i64 (b 2), .int .i64 (b 3), .int .i64 (b 4), .int .i64 (b 5)]), (.agg #[.int .i64 (b 0), .int .i64 (b 1), .int .i64 (b 2), .int .i64 (b 3), .int .i64 (b 4), .int .i64 (b 5)]), u16, u17, u18, u19, by first | rfl | (simp; done) | (simp; exact ⟨rfl, rfl⟩), e0, e1, fun _ => rfl, fun _ => rfl, e4, e5, e6, e7, e8, e11, HB.out.trans (hb.mono HB.out.size), (fun h1 => by obtain ⟨q, e, hq, hA⟩ := hA0 h1; exact ⟨q, e, hq, hA.up hb⟩)⟩
    · refine wpOp_want rfl rfl (Oper.wp_of_quiet (C := fun w' => w' = wz) (K := fun a' => a' = ⟨#[.agg #[.int .i64 (a 0), .int .i64 (a 1), .int .i64 (a 2), .int .i64 (a 3), .int .i64 (a 4), .int .i64 (a 5)], .agg #[.int .i64 (b 0), .int .i64 (b 1), .int .i64 (b 2), .int .i64 (b 3), .int .i64 (b 4), .int .i64 (b 5)], .int .i64 g, .pointer (some ⟨w.heap.size, 0, none⟩), .pointer (some ⟨w.heap.size + 1, 0, none⟩), undef, .bool false, u7, u8, undef, undef, u11, u12, u13, u14, u15, (.int .i64 g), u17, u18, u19, undef, undef, undef, undef, undef, undef, undef, undef, undef, undef, undef, undef, undef, undef, undef, undef, undef, undef], []⟩) rfl ?_ ?_)
      · intro a' w' hC' hK
        subst hK
        subst hC'
        exact ⟨u7, u8, u11, u12, u13, u14, u15, (.int .i64 g), u17, u18, u19, by first | rfl | (simp; done) | (simp; exact ⟨rfl, rfl⟩), e0, e1, e2, e3, fun _ => rfl, e5, e6, e7, e8, e11, hB0, hA0⟩
      · exact BigFrame.quiet_move _ rfl rfl
    · obtain rfl := e1 (hdep 1 (by kernel_rfl))
      obtain rfl := e3 (hdep 3 (by kernel_rfl))
      obtain rfl := e4 (hdep 4 (by kernel_rfl))
      have HB := Lib.hid hB0; clear hB0
      refine wpOp_want rfl rfl ?_
      go_simp
      refine (Hs.out _).mono ?_
      rintro e w9 ⟨rfl, hb⟩
      go_simp
      exact ⟨u7, u8, u11, u12, (.agg #[.int .i64 (a 0), .int .i64 (a 1), .int .i64 (a 2), .int .i64 (a 3), .int .i64 (a 4), .int .i64 (a 5)]), u14, (.agg #[.int .i64 (b 0), .int .i64 (b 1), .int .i64 (b 2), .int .i64 (b 3), .int .i64 (b 4), .int .i64 (b 5)]), (.int .i64 g), (.tuple #[.agg #[.int .i64 x, .int .i64 y], .bool z]), u18, u19, by first | rfl | (simp; done) | (simp; exact ⟨rfl, rfl⟩), e0, fun _ => rfl, e2, fun _ => rfl, fun _ => rfl, fun _ => rfl, e6, e7, e8, e11, HB.out.trans (hb.mono HB.out.size), (fun h1 => by obtain ⟨q, e, hq, hA⟩ := hA0 h1; exact ⟨q, e, hq, hA.up hb⟩)⟩
    · obtain rfl := e5 (hdep 5 (by kernel_rfl))
      refine wpOp_want rfl rfl (Oper.wp_of_quiet (C := fun w' => w' = wz) (K := fun a' => a' = ⟨#[.agg #[.int .i64 (a 0), .int .i64 (a 1), .int .i64 (a 2), .int .i64 (a 3), .int .i64 (a 4), .int .i64 (a 5)], .agg #[.int .i64 (b 0), .int .i64 (b 1), .int .i64 (b 2), .int .i64 (b 3), .int .i64 (b 4), .int .i64 (b 5)], .int .i64 g, .pointer (some ⟨w.heap.size, 0, none⟩), .pointer (some ⟨w.heap.size + 1, 0, none⟩), undef, .bool false, u7, u8, undef, undef, (.tuple #[.agg #[.int .i64 x, .int .i64 y], .bool z]), u12, u13, u14, u15, u16, (.tuple #[.agg #[.int .i64 x, .int .i64 y], .bool z]), u18, u19, undef, undef, undef, undef, undef, undef, undef, undef, undef, undef, undef, undef, undef, undef, undef, undef, undef, undef], []⟩) rfl ?_ ?_)
      · intro a' w' hC' hK
        subst hK
        subst hC'
        exact ⟨u7, u8, (.tuple #[.agg #[.int .i64 x, .int .i64 y], .bool z]), u12, u13, u14, u15, u16, (.tuple #[.agg #[.int .i64 x, .int .i64 y], .bool z]), u18, u19, by first | rfl | (simp; done) | (simp; exact ⟨rfl, rfl⟩), e0, e1, e2, e3, e4, fun _ => rfl, fun _ => rfl, e7, e8, e11, hB0, hA0⟩
      · exact BigFrame.quiet_move _ rfl rfl
    · obtain rfl := e6 (hdep 6 (by kernel_rfl))
      refine wpOp_want rfl rfl (Oper.wp_of_quiet (C := fun w' => w' = wz) (K := fun a' => a' = ⟨#[.agg #[.int .i64 (a 0), .int .i64 (a 1), .int .i64 (a 2), .int .i64 (a 3), .int .i64 (a 4), .int .i64 (a 5)], .agg #[.int .i64 (b 0), .int .i64 (b 1), .int .i64 (b 2), .int .i64 (b 3), .int .i64 (b 4), .int .i64 (b 5)], .int .i64 g, .pointer (some ⟨w.heap.size, 0, none⟩), .pointer (some ⟨w.heap.size + 1, 0, none⟩), undef, .bool false, u7, u8, undef, undef, (.tuple #[.agg #[.int .i64 x, .int .i64 y], .bool z]), u12, u13, u14, u15, u16, u17, (.agg #[.int .i64 x, .int .i64 y]), u19, undef, undef, undef, undef, undef, undef, undef, undef, undef, undef, undef, undef, undef, undef, undef, undef, undef, undef], []⟩) rfl ?_ ?_)
      · intro a' w' hC' hK
        subst hK
        subst hC'
        exact ⟨u7, u8, (.tuple #[.agg #[.int .i64 x, .int .i64 y], .bool z]), u12, u13, u14, u15, u16, u17, (.agg #[.int .i64 x, .int .i64 y]), u19, by first | rfl | (simp; done) | (simp; exact ⟨rfl, rfl⟩), e0, e1, e2, e3, e4, e5, fun _ => rfl, fun _ => rfl, e8, e11, hB0, hA0⟩
      · exact ⟨(.agg #[.int .i64 x, .int .i64 y]), fun w' hw' => ⟨rfl, rfl⟩, rfl⟩
    · obtain rfl := e6 (hdep 6 (by kernel_rfl))
      refine wpOp_want rfl rfl (Oper.wp_of_quiet (C := fun w' => w' = wz) (K := fun a' => a' = ⟨#[.agg #[.int .i64 (a 0), .int .i64 (a 1), .int .i64 (a 2), .int .i64 (a 3), .int .i64 (a 4), .int .i64 (a 5)], .agg #[.int .i64 (b 0), .int .i64 (b 1), .int .i64 (b 2), .int .i64 (b 3), .int .i64 (b 4), .int .i64 (b 5)], .int .i64 g, .pointer (some ⟨w.heap.size, 0, none⟩), .pointer (some ⟨w.heap.size + 1, 0, none⟩), undef, .bool false, u7, u8, undef, undef, (.tuple #[.agg #[.int .i64 x, .int .i64 y], .bool z]), u12, u13, u14, u15, u16, u17, u18, (.bool z), undef, undef, undef, undef, undef, undef, undef, undef, undef, undef, undef, undef, undef, undef, undef, undef, undef, undef], []⟩) rfl ?_ ?_)
      · intro a' w' hC' hK
        subst hK
        subst hC'
        exact ⟨u7, u8, (.tuple #[.agg #[.int .i64 x, .int .i64 y], .bool z]), u12, u13, u14, u15, u16, u17, u18, (.bool z), by first | rfl | (simp; done) | (simp; exact ⟨rfl, rfl⟩), e0, e1, e2, e3, e4, e5, fun _ => rfl, e7, fun _ => rfl, e11, hB0, hA0⟩
      · exact ⟨(.bool z), fun w' hw' => ⟨rfl, rfl⟩, rfl⟩
    · have h9f : L 10 = false := by cases h : L 10; rfl; exact absurd (hcl 10 9 h (by kernel_rfl)) (by rw [hL]; decide)
      have HB := Lib.hid hB0; clear hB0
      refine wpOp_want rfl rfl ?_
      go_simp
      exact ⟨(.pointer (some ⟨wz.heap.size, 0, none⟩)), u8, u11, u12, u13, u14, u15, u16, u17, u18, u19, by first | rfl | (simp; done) | (simp; exact ⟨rfl, rfl⟩), e0, e1, e2, e3, e4, e5, e6, e7, e8, e11, HB.out.alloc HB.out.size _, (fun _ => ⟨_, rfl, HB.out.size, At.congr (At.new2 wz 30) (fun k _ => by show (0 : Int) = if L 10 = true then _ else 0; rw [h9f]; rfl)⟩)⟩
    · obtain rfl := e7 (hdep 7 (by kernel_rfl))
      obtain ⟨q, rfl, hq2, hq3⟩ := hA0 (hdep 9 (by kernel_rfl))
      have hq3' : At wz q 2 (fun _ => 0) := hq3.congr (fun k _ => by show (if L 10 = true then _ else 0) = (0 : Int); rw [hL]; rfl)
      have o0 := hq3'.cell 0 (by omega)
      have z0 := hq3'.free 0
      have o1 := hq3'.cell 1 (by omega)
      have z1 := hq3'.free 1
      have HB := Lib.hid hB0; clear hB0
      refine wpOp_want rfl rfl ?_
      go_simp
      exact ⟨(.pointer (some ⟨q, 0, none⟩)), u8, u11, u12, u13, u14, u15, u16, u17, (.agg #[.int .i64 x, .int .i64 y]), u19, by first | rfl | (simp; done) | (simp; exact ⟨rfl, rfl⟩), e0, e1, e2, e3, e4, e5, e6, fun _ => rfl, e8, e11, HB.out.trans (setCells_below (p := q) (B := W3.heap.size) hq2 (vals 2 (fr x y)) 0), (fun _ => ⟨q, rfl, hq2, At.congr (hq3'.stored (fr x y)) (fun k _ => rfl)⟩)⟩
    · obtain rfl := e8 (hdep 8 (by kernel_rfl))
      refine wpOp_want rfl rfl (Oper.wp_of_quiet (C := fun w' => w' = wz) (K := fun a' => a' = ⟨#[.agg #[.int .i64 (a 0), .int .i64 (a 1), .int .i64 (a 2), .int .i64 (a 3), .int .i64 (a 4), .int .i64 (a 5)], .agg #[.int .i64 (b 0), .int .i64 (b 1), .int .i64 (b 2), .int .i64 (b 3), .int .i64 (b 4), .int .i64 (b 5)], .int .i64 g, .pointer (some ⟨w.heap.size, 0, none⟩), .pointer (some ⟨w.heap.size + 1, 0, none⟩), undef, .bool false, u7, (.bool z), undef, undef, u11, u12, u13, u14, u15, u16, u17, u18, (.bool z), undef, undef, undef, undef, undef, undef, undef, undef, undef, undef, undef, undef, undef, undef, undef, undef, undef, undef], []⟩) rfl ?_ ?_)
      · intro a' w' hC' hK
        subst hK
        subst hC'
        exact ⟨u7, (.bool z), u11, u12, u13, u14, u15, u16, u17, u18, (.bool z), by first | rfl | (simp; done) | (simp; exact ⟨rfl, rfl⟩), e0, e1, e2, e3, e4, e5, e6, e7, fun _ => rfl, fun _ => rfl, hB0, hA0⟩
      · exact BigFrame.quiet_assign _ rfl rfl
  intro L az wz hL hcl hI
  obtain ⟨u7, u8, u11, u12, u13, u14, u15, u16, u17, u18, u19, rfl, e0, e1, e2, e3, e4, e5, e6, e7, e8, e11, hB0, hA0⟩ := hI
  obtain rfl := e0 (hL 0 (by decide))
  obtain rfl := e1 (hL 1 (by decide))
  obtain rfl := e2 (hL 2 (by decide))
  obtain rfl := e3 (hL 3 (by decide))
  obtain rfl := e4 (hL 4 (by decide))
  obtain rfl := e5 (hL 5 (by decide))
  obtain rfl := e6 (hL 6 (by decide))
  obtain rfl := e7 (hL 7 (by decide))
  obtain rfl := e8 (hL 8 (by decide))
  obtain rfl := e11 (hL 11 (by decide))
  obtain ⟨q1, rfl, hlq1, hq3⟩ := hA0 (hL 9 (by decide))
  have hX5 : At wz q1 2 (fr x y) := hq3.congr fun k hk => by rw [if_pos (hL 10 (by decide))]
  clear hq3
  clear hcl hL
  have hB := hB.trans (hB0.mono hB.size)
  have hX1 := hX1.up hB0
  have hX2 := hX2.up hB0
  clear hB0
  obtain ⟨w4, hW⟩ : ∃ W, W = wz := ⟨_, rfl⟩
  rw [← hW] at hX1 hX2 hX5 hB ⊢
  clear hW
  go_wp2_with fail
  obtain ⟨W6, hW⟩ : ∃ W, W = w4 := ⟨_, rfl⟩
  rw [← hW] at hX1 hX2 hX5 hB ⊢
  clear hW
  refine wp_region_inc (I := fun L az w' => ∃ u9 u10 u20 u21 u22 u23 u24 u25 u26 u27 u28 : Value, az = ⟨#[.agg #[.int .i64 (a 0), .int .i64 (a 1), .int .i64 (a 2), .int .i64 (a 3), .int .i64 (a 4), .int .i64 (a 5)], .agg #[.int .i64 (b 0), .int .i64 (b 1), .int .i64 (b 2), .int .i64 (b 3), .int .i64 (b 4), .int .i64 (b 5)], .int .i64 g, .pointer (some ⟨w.heap.size, 0, none⟩), .pointer (some ⟨w.heap.size + 1, 0, none⟩), undef, .bool false, .pointer (some ⟨q1, 0, none⟩), .bool z, u9, u10, .tuple #[.agg #[.int .i64 x, .int .i64 y], .bool z], .agg #[.int .i64 (a 0), .int .i64 (a 1), .int .i64 (a 2), .int .i64 (a 3), .int .i64 (a 4), .int .i64 (a 5)], .agg #[.int .i64 (a 0), .int .i64 (a 1), .int .i64 (a 2), .int .i64 (a 3), .int .i64 (a 4), .int .i64 (a 5)], .agg #[.int .i64 (b 0), .int .i64 (b 1), .int .i64 (b 2), .int .i64 (b 3), .int .i64 (b 4), .int .i64 (b 5)], .agg #[.int .i64 (b 0), .int .i64 (b 1), .int .i64 (b 2), .int .i64 (b 3), .int .i64 (b 4), .int .i64 (b 5)], .int .i64 g, .tuple #[.agg #[.int .i64 x, .int .i64 y], .bool z], .agg #[.int .i64 x, .int .i64 y], .bool z, u20, u21, u22, u23, u24, u25, u26, u27, u28, undef, undef, undef, undef, undef, undef, undef, undef, undef], []⟩ ∧ (L 0 = true → u21 = (.agg #[.int .i64 (a 0), .int .i64 (a 1), .int .i64 (a 2), .int .i64 (a 3), .int .i64 (a 4), .int .i64 (a 5)])) ∧ (L 1 = true → u22 = (.agg #[.int .i64 (a 0), .int .i64 (a 1), .int .i64 (a 2), .int .i64 (a 3), .int .i64 (a 4), .int .i64 (a 5)])) ∧ (L 2 = true → u23 = (.agg #[.int .i64 (b 0), .int .i64 (b 1), .int .i64 (b 2), .int .i64 (b 3), .int .i64 (b 4), .int .i64 (b 5)])) ∧ (L 3 = true → u24 = (.agg #[.int .i64 (b 0), .int .i64 (b 1), .int .i64 (b 2), .int .i64 (b 3), .int .i64 (b 4), .int .i64 (b 5)])) ∧ (L 4 = true → u25 = (.int .i64 g)) ∧ (L 5 = true → u26 = (.tuple #[.agg #[.int .i64 x, .int .i64 y], .bool z])) ∧ (L 6 = true → u20 = (.tuple #[.agg #[.int .i64 x, .int .i64 y], .bool z])) ∧ (L 7 = true → u27 = (.agg #[.int .i64 x, .int .i64 y])) ∧ (L 8 = true → u28 = (.bool z)) ∧ (L 11 = true → u10 = (.bool z)) ∧ Below W6.heap.size W6 w' ∧ (L 9 = true → ∃ q, u9 = .pointer (some ⟨q, 0, none⟩) ∧ W6.heap.size ≤ q ∧ At w' q 2 (fun k => if L 10 = true then (fr x y) k else 0))) (by kernel_rfl) (by kernel_rfl) ?_ ?_ ?_
  · exact ⟨_, _, _, _, _, _, _, _, _, _, _, rfl, (fun h => by cases h), (fun h => by cases h), (fun h => by cases h), (fun h => by cases h), (fun h => by cases h), (fun h => by cases h), (fun h => by cases h), (fun h => by cases h), (fun h => by cases h), (fun h => by cases h), ((Below.refl _ W6).drew), (fun h => by cases h)⟩
  · intro L az wz i hi hL hdep hcl hI
    obtain ⟨u9, u10, u20, u21, u22, u23, u24, u25, u26, u27, u28, rfl, e0, e1, e2, e3, e4, e5, e6, e7, e8, e11, hB0, hA0⟩ := hI
    have hi' : i < 12 := hi
    clear hi
    obtain rfl | rfl | rfl | rfl | rfl | rfl | rfl | rfl | rfl | rfl | rfl | rfl : i = 0 ∨ i = 1 ∨ i = 2 ∨ i = 3 ∨ i = 4 ∨ i = 5 ∨ i = 6 ∨ i = 7 ∨ i = 8 ∨ i = 9 ∨ i = 10 ∨ i = 11 := by omega
    · have hXX := hX1.up hB0
      have c0 := hXX.cell 0 (by omega)
      have c1 := hXX.cell 1 (by omega)
      have c2 := hXX.cell 2 (by omega)
      have c3 := hXX.cell 3 (by omega)
      have c4 := hXX.cell 4 (by omega)
      have c5 := hXX.cell 5 (by omega)
      have HB := Lib.hid hB0; clear hB0
      refine wpOp_want rfl rfl ?_
      go_simp
      exact ⟨u9, u10, u20, (.agg #[.int .i64 (a 0), .int .i64 (a 1), .int .i64 (a 2), .int .i64 (a 3), .int .i64 (a 4), .int .i64 (a 5)]), u22, u23, u24, u25, u26, u27, u28, by first | rfl | (simp; done) | (simp; exact ⟨rfl, rfl⟩), fun _ => rfl, e1, e2, e3, e4, e5, e6, e7, e8, e11, HB.out, hA0⟩
    · obtain rfl := e0 (hdep 0 (by kernel_rfl))
      have HB := Lib.hid hB0; clear hB0
      refine wpOp_want rfl rfl ?_
      go_simp
      refine (Ht6.out a _).mono ?_
      rintro e w9 ⟨rfl, hb⟩
      go_simp
      exact ⟨u9, u10, u20, (.agg #[.int .i64 (a 0), .int .i64 (a 1), .int .i64 (a 2), .int .i64 (a 3), .int .i64 (a 4), .int .i64 (a 5)]), (.agg #[.int .i64 (a 0), .int .i64 (a 1), .int .i64 (a 2), .int .i64 (a 3), .int .i64 (a 4), .int .i64 (a 5)]), u23, u24, u25, u26, u27, u28, by first | rfl | (simp; done) | (simp; exact ⟨rfl, rfl⟩), fun _ => rfl, fun _ => rfl, e2, e3, e4, e5, e6, e7, e8, e11, HB.out.trans (hb.mono HB.out.size), (fun h1 => by obtain ⟨q, e, hq, hA⟩ := hA0 h1; exact ⟨q, e, hq, hA.up hb⟩)⟩
    · have hXX := hX2.up hB0
      have c0 := hXX.cell 0 (by omega)
      have c1 := hXX.cell 1 (by omega)
      have c2 := hXX.cell 2 (by omega)
      have c3 := hXX.cell 3 (by omega)
      have c4 := hXX.cell 4 (by omega)
      have c5 := hXX.cell 5 (by omega)
      have HB := Lib.hid hB0; clear hB0
      refine wpOp_want rfl rfl ?_
      go_simp
      exact ⟨u9, u10, u20, u21, u22, (.agg #[.int .i64 (b 0), .int .i64 (b 1), .int .i64 (b 2), .int .i64 (b 3), .int .i64 (b 4), .int .i64 (b 5)]), u24, u25, u26, u27, u28, by first | rfl | (simp; done) | (simp; exact ⟨rfl, rfl⟩), e0, e1, fun _ => rfl, e3, e4, e5, e6, e7, e8, e11, HB.out, hA0⟩
    · obtain rfl := e2 (hdep 2 (by kernel_rfl))
      have HB := Lib.hid hB0; clear hB0
      refine wpOp_want rfl rfl ?_
      go_simp
      refine (Ht6.out b _).mono ?_
      rintro e w9 ⟨rfl, hb⟩
      go_simp
      exact ⟨u9, u10, u20, u21, u22, (.agg #[.int .i64 (b 0), .int .i64 (b 1), .int .i64 (b 2), .int .i64 (b 3), .int .i64 (b 4), .int .i64 (b 5)]), (.agg #[.int .i64 (b 0), .int .i64 (b 1), .int .i64 (b 2), .int .i64 (b 3), .int .i64 (b 4), .int .i64 (b 5)]), u25, u26, u27, u28, by first | rfl | (simp; done) | (simp; exact ⟨rfl, rfl⟩), e0, e1, fun _ => rfl, fun _ => rfl, e4, e5, e6, e7, e8, e11, HB.out.trans (hb.mono HB.out.size), (fun h1 => by obtain ⟨q, e, hq, hA⟩ := hA0 h1; exact ⟨q, e, hq, hA.up hb⟩)⟩
    · refine wpOp_want rfl rfl (Oper.wp_of_quiet (C := fun w' => w' = wz) (K := fun a' => a' = ⟨#[.agg #[.int .i64 (a 0), .int .i64 (a 1), .int .i64 (a 2), .int .i64 (a 3), .int .i64 (a 4), .int .i64 (a 5)], .agg #[.int .i64 (b 0), .int .i64 (b 1), .int .i64 (b 2), .int .i64 (b 3), .int .i64 (b 4), .int .i64 (b 5)], .int .i64 g, .pointer (some ⟨w.heap.size, 0, none⟩), .pointer (some ⟨w.heap.size + 1, 0, none⟩), undef, .bool false, .pointer (some ⟨q1, 0, none⟩), .bool z, u9, u10, .tuple #[.agg #[.int .i64 x, .int .i64 y], .bool z], .agg #[.int .i64 (a 0), .int .i64 (a 1), .int .i64 (a 2), .int .i64 (a 3), .int .i64 (a 4), .int .i64 (a 5)], .agg #[.int .i64 (a 0), .int .i64 (a 1), .int .i64 (a 2), .int .i64 (a 3), .int .i64 (a 4), .int .i64 (a 5)], .agg #[.int .i64 (b 0), .int .i64 (b 1), .int .i64 (b 2), .int .i64 (b 3), .int .i64 (b 4), .int .i64 (b 5)], .agg #[.int .i64 (b 0), .int .i64 (b 1), .int .i64 (b 2), .int .i64 (b 3), .int .i64 (b 4), .int .i64 (b 5)], .int .i64 g, .tuple #[.agg #[.int .i64 x, .int .i64 y], .bool z], .agg #[.int .i64 x, .int .i64 y], .bool z, u20, u21, u22, u23, u24, (.int .i64 g), u26, u27, u28, undef, undef, undef, undef, undef, undef, undef, undef, undef], []⟩) rfl ?_ ?_)
      · intro a' w' hC' hK
        subst hK
        subst hC'
        exact ⟨u9, u10, u20, u21, u22, u23, u24, (.int .i64 g), u26, u27, u28, by first | rfl | (simp; done) | (simp; exact ⟨rfl, rfl⟩), e0, e1, e2, e3, fun _ => rfl, e5, e6, e7, e8, e11, hB0, hA0⟩
      · exact BigFrame.quiet_move _ rfl rfl
    · obtain rfl := e1 (hdep 1 (by kernel_rfl))
      obtain rfl := e3 (hdep 3 (by kernel_rfl))
      obtain rfl := e4 (hdep 4 (by kernel_rfl))
      have HB := Lib.hid hB0; clear hB0
      refine wpOp_want rfl rfl ?_
      go_simp
      refine (Hi.out _).mono ?_
      rintro e w9 ⟨rfl, hb⟩
      go_simp
      exact ⟨u9, u10, u20, u21, (.agg #[.int .i64 (a 0), .int .i64 (a 1), .int .i64 (a 2), .int .i64 (a 3), .int .i64 (a 4), .int .i64 (a 5)]), u23, (.agg #[.int .i64 (b 0), .int .i64 (b 1), .int .i64 (b 2), .int .i64 (b 3), .int .i64 (b 4), .int .i64 (b 5)]), (.int .i64 g), (.tuple #[.agg #[.int .i64 x, .int .i64 y], .bool z]), u27, u28, by first | rfl | (simp; done) | (simp; exact ⟨rfl, rfl⟩), e0, fun _ => rfl, e2, fun _ => rfl, fun _ => rfl, fun _ => rfl, e6, e7, e8, e11, HB.out.trans (hb.mono HB.out.size), (fun h1 => by obtain ⟨q, e, hq, hA⟩ := hA0 h1; exact ⟨q, e, hq, hA.up hb⟩)⟩
    · obtain rfl := e5 (hdep 5 (by kernel_rfl))
      refine wpOp_want rfl rfl (Oper.wp_of_quiet (C := fun w' => w' = wz) (K := fun a' => a' = ⟨#[.agg #[.int .i64 (a 0), .int .i64 (a 1), .int .i64 (a 2), .int .i64 (a 3), .int .i64 (a 4), .int .i64 (a 5)], .agg #[.int .i64 (b 0), .int .i64 (b 1), .int .i64 (b 2), .int .i64 (b 3), .int .i64 (b 4), .int .i64 (b 5)], .int .i64 g, .pointer (some ⟨w.heap.size, 0, none⟩), .pointer (some ⟨w.heap.size + 1, 0, none⟩), undef, .bool false, .pointer (some ⟨q1, 0, none⟩), .bool z, u9, u10, .tuple #[.agg #[.int .i64 x, .int .i64 y], .bool z], .agg #[.int .i64 (a 0), .int .i64 (a 1), .int .i64 (a 2), .int .i64 (a 3), .int .i64 (a 4), .int .i64 (a 5)], .agg #[.int .i64 (a 0), .int .i64 (a 1), .int .i64 (a 2), .int .i64 (a 3), .int .i64 (a 4), .int .i64 (a 5)], .agg #[.int .i64 (b 0), .int .i64 (b 1), .int .i64 (b 2), .int .i64 (b 3), .int .i64 (b 4), .int .i64 (b 5)], .agg #[.int .i64 (b 0), .int .i64 (b 1), .int .i64 (b 2), .int .i64 (b 3), .int .i64 (b 4), .int .i64 (b 5)], .int .i64 g, .tuple #[.agg #[.int .i64 x, .int .i64 y], .bool z], .agg #[.int .i64 x, .int .i64 y], .bool z, (.tuple #[.agg #[.int .i64 x, .int .i64 y], .bool z]), u21, u22, u23, u24, u25, (.tuple #[.agg #[.int .i64 x, .int .i64 y], .bool z]), u27, u28, undef, undef, undef, undef, undef, undef, undef, undef, undef], []⟩) rfl ?_ ?_)
      · intro a' w' hC' hK
        subst hK
        subst hC'
        exact ⟨u9, u10, (.tuple #[.agg #[.int .i64 x, .int .i64 y], .bool z]), u21, u22, u23, u24, u25, (.tuple #[.agg #[.int .i64 x, .int .i64 y], .bool z]), u27, u28, by first | rfl | (simp; done) | (simp; exact ⟨rfl, rfl⟩), e0, e1, e2, e3, e4, fun _ => rfl, fun _ => rfl, e7, e8, e11, hB0, hA0⟩
      · exact BigFrame.quiet_move _ rfl rfl
    · obtain rfl := e6 (hdep 6 (by kernel_rfl))
      refine wpOp_want rfl rfl (Oper.wp_of_quiet (C := fun w' => w' = wz) (K := fun a' => a' = ⟨#[.agg #[.int .i64 (a 0), .int .i64 (a 1), .int .i64 (a 2), .int .i64 (a 3), .int .i64 (a 4), .int .i64 (a 5)], .agg #[.int .i64 (b 0), .int .i64 (b 1), .int .i64 (b 2), .int .i64 (b 3), .int .i64 (b 4), .int .i64 (b 5)], .int .i64 g, .pointer (some ⟨w.heap.size, 0, none⟩), .pointer (some ⟨w.heap.size + 1, 0, none⟩), undef, .bool false, .pointer (some ⟨q1, 0, none⟩), .bool z, u9, u10, .tuple #[.agg #[.int .i64 x, .int .i64 y], .bool z], .agg #[.int .i64 (a 0), .int .i64 (a 1), .int .i64 (a 2), .int .i64 (a 3), .int .i64 (a 4), .int .i64 (a 5)], .agg #[.int .i64 (a 0), .int .i64 (a 1), .int .i64 (a 2), .int .i64 (a 3), .int .i64 (a 4), .int .i64 (a 5)], .agg #[.int .i64 (b 0), .int .i64 (b 1), .int .i64 (b 2), .int .i64 (b 3), .int .i64 (b 4), .int .i64 (b 5)], .agg #[.int .i64 (b 0), .int .i64 (b 1), .int .i64 (b 2), .int .i64 (b 3), .int .i64 (b 4), .int .i64 (b 5)], .int .i64 g, .tuple #[.agg #[.int .i64 x, .int .i64 y], .bool z], .agg #[.int .i64 x, .int .i64 y], .bool z, (.tuple #[.agg #[.int .i64 x, .int .i64 y], .bool z]), u21, u22, u23, u24, u25, u26, (.agg #[.int .i64 x, .int .i64 y]), u28, undef, undef, undef, undef, undef, undef, undef, undef, undef], []⟩) rfl ?_ ?_)
      · intro a' w' hC' hK
        subst hK
        subst hC'
        exact ⟨u9, u10, (.tuple #[.agg #[.int .i64 x, .int .i64 y], .bool z]), u21, u22, u23, u24, u25, u26, (.agg #[.int .i64 x, .int .i64 y]), u28, by first | rfl | (simp; done) | (simp; exact ⟨rfl, rfl⟩), e0, e1, e2, e3, e4, e5, fun _ => rfl, fun _ => rfl, e8, e11, hB0, hA0⟩
      · exact ⟨(.agg #[.int .i64 x, .int .i64 y]), fun w' hw' => ⟨rfl, rfl⟩, rfl⟩
    · obtain rfl := e6 (hdep 6 (by kernel_rfl))
      refine wpOp_want rfl rfl (Oper.wp_of_quiet (C := fun w' => w' = wz) (K := fun a' => a' = ⟨#[.agg #[.int .i64 (a 0), .int .i64 (a 1), .int .i64 (a 2), .int .i64 (a 3), .int .i64 (a 4), .int .i64 (a 5)], .agg #[.int .i64 (b 0), .int .i64 (b 1), .int .i64 (b 2), .int .i64 (b 3), .int .i64 (b 4), .int .i64 (b 5)], .int .i64 g, .pointer (some ⟨w.heap.size, 0, none⟩), .pointer (some ⟨w.heap.size + 1, 0, none⟩), undef, .bool false, .pointer (some ⟨q1, 0, none⟩), .bool z, u9, u10, .tuple #[.agg #[.int .i64 x, .int .i64 y], .bool z], .agg #[.int .i64 (a 0), .int .i64 (a 1), .int .i64 (a 2), .int .i64 (a 3), .int .i64 (a 4), .int .i64 (a 5)], .agg #[.int .i64 (a 0), .int .i64 (a 1), .int .i64 (a 2), .int .i64 (a 3), .int .i64 (a 4), .int .i64 (a 5)], .agg #[.int .i64 (b 0), .int .i64 (b 1), .int .i64 (b 2), .int .i64 (b 3), .int .i64 (b 4), .int .i64 (b 5)], .agg #[.int .i64 (b 0), .int .i64 (b 1), .int .i64 (b 2), .int .i64 (b 3), .int .i64 (b 4), .int .i64 (b 5)], .int .i64 g, .tuple #[.agg #[.int .i64 x, .int .i64 y], .bool z], .agg #[.int .i64 x, .int .i64 y], .bool z, (.tuple #[.agg #[.int .i64 x, .int .i64 y], .bool z]), u21, u22, u23, u24, u25, u26, u27, (.bool z), undef, undef, undef, undef, undef, undef, undef, undef, undef], []⟩) rfl ?_ ?_)
      · intro a' w' hC' hK
        subst hK
        subst hC'
        exact ⟨u9, u10, (.tuple #[.agg #[.int .i64 x, .int .i64 y], .bool z]), u21, u22, u23, u24, u25, u26, u27, (.bool z), by first | rfl | (simp; done) | (simp; exact ⟨rfl, rfl⟩), e0, e1, e2, e3, e4, e5, fun _ => rfl, e7, fun _ => rfl, e11, hB0, hA0⟩
      · exact ⟨(.bool z), fun w' hw' => ⟨rfl, rfl⟩, rfl⟩
    · have h9f : L 10 = false := by cases h : L 10; rfl; exact absurd (hcl 10 9 h (by kernel_rfl)) (by rw [hL]; decide)
      have HB := Lib.hid hB0; clear hB0
      refine wpOp_want rfl rfl ?_
      go_simp
      exact ⟨(.pointer (some ⟨wz.heap.size, 0, none⟩)), u10, u20, u21, u22, u23, u24, u25, u26, u27, u28, by first | rfl | (simp; done) | (simp; exact ⟨rfl, rfl⟩), e0, e1, e2, e3, e4, e5, e6, e7, e8, e11, HB.out.alloc HB.out.size _, (fun _ => ⟨_, rfl, HB.out.size, At.congr (At.new2 wz 30) (fun k _ => by show (0 : Int) = if L 10 = true then _ else 0; rw [h9f]; rfl)⟩)⟩
    · obtain rfl := e7 (hdep 7 (by kernel_rfl))
      obtain ⟨q, rfl, hq2, hq3⟩ := hA0 (hdep 9 (by kernel_rfl))
      have hq3' : At wz q 2 (fun _ => 0) := hq3.congr (fun k _ => by show (if L 10 = true then _ else 0) = (0 : Int); rw [hL]; rfl)
      have o0 := hq3'.cell 0 (by omega)
      have z0 := hq3'.free 0
      have o1 := hq3'.cell 1 (by omega)
      have z1 := hq3'.free 1
      have HB := Lib.hid hB0; clear hB0
      refine wpOp_want rfl rfl ?_
      go_simp
      exact ⟨(.pointer (some ⟨q, 0, none⟩)), u10, u20, u21, u22, u23, u24, u25, u26, (.agg #[.int .i64 x, .int .i64 y]), u28, by first | rfl | (simp; done) | (simp; exact ⟨rfl, rfl⟩), e0, e1, e2, e3, e4, e5, e6, fun _ => rfl, e8, e11, HB.out.trans (setCells_below (p := q) (B := W6.heap.size) hq2 (vals 2 (fr x y)) 0), (fun _ => ⟨q, rfl, hq2, At.congr (hq3'.stored (fr x y)) (fun k _ => rfl)⟩)⟩
    · obtain rfl := e8 (hdep 8 (by kernel_rfl))
      refine wpOp_want rfl rfl (Oper.wp_of_quiet (C := fun w' => w' = wz) (K := fun a' => a' = ⟨#[.agg #[.int .i64 (a 0), .int .i64 (a 1), .int .i64 (a 2), .int .i64 (a 3), .int .i64 (a 4), .int .i64 (a 5)], .agg #[.int .i64 (b 0), .int .i64 (b 1), .int .i64 (b 2), .int .i64 (b 3), .int .i64 (b 4), .int .i64 (b 5)], .int .i64 g, .pointer (some ⟨w.heap.size, 0, none⟩), .pointer (some ⟨w.heap.size + 1, 0, none⟩), undef, .bool false, .pointer (some ⟨q1, 0, none⟩), .bool z, u9, (.bool z), .tuple #[.agg #[.int .i64 x, .int .i64 y], .bool z], .agg #[.int .i64 (a 0), .int .i64 (a 1), .int .i64 (a 2), .int .i64 (a 3), .int .i64 (a 4), .int .i64 (a 5)], .agg #[.int .i64 (a 0), .int .i64 (a 1), .int .i64 (a 2), .int .i64 (a 3), .int .i64 (a 4), .int .i64 (a 5)], .agg #[.int .i64 (b 0), .int .i64 (b 1), .int .i64 (b 2), .int .i64 (b 3), .int .i64 (b 4), .int .i64 (b 5)], .agg #[.int .i64 (b 0), .int .i64 (b 1), .int .i64 (b 2), .int .i64 (b 3), .int .i64 (b 4), .int .i64 (b 5)], .int .i64 g, .tuple #[.agg #[.int .i64 x, .int .i64 y], .bool z], .agg #[.int .i64 x, .int .i64 y], .bool z, u20, u21, u22, u23, u24, u25, u26, u27, (.bool z), undef, undef, undef, undef, undef, undef, undef, undef, undef], []⟩) rfl ?_ ?_)
      · intro a' w' hC' hK
        subst hK
        subst hC'
        exact ⟨u9, (.bool z), u20, u21, u22, u23, u24, u25, u26, u27, (.bool z), by first | rfl | (simp; done) | (simp; exact ⟨rfl, rfl⟩), e0, e1, e2, e3, e4, e5, e6, e7, fun _ => rfl, fun _ => rfl, hB0, hA0⟩
      · exact BigFrame.quiet_assign _ rfl rfl
  intro L az wz hL hcl hI
  obtain ⟨u9, u10, u20, u21, u22, u23, u24, u25, u26, u27, u28, rfl, e0, e1, e2, e3, e4, e5, e6, e7, e8, e11, hB0, hA0⟩ := hI
  obtain rfl := e0 (hL 0 (by decide))
  obtain rfl := e1 (hL 1 (by decide))
  obtain rfl := e2 (hL 2 (by decide))
  obtain rfl := e3 (hL 3 (by decide))
  obtain rfl := e4 (hL 4 (by decide))
  obtain rfl := e5 (hL 5 (by decide))
  obtain rfl := e6 (hL 6 (by decide))
  obtain rfl := e7 (hL 7 (by decide))
  obtain rfl := e8 (hL 8 (by decide))
  obtain rfl := e11 (hL 11 (by decide))
  obtain ⟨q2, rfl, hlq2, hq3⟩ := hA0 (hL 9 (by decide))
  have hX8 : At wz q2 2 (fr x y) := hq3.congr fun k hk => by rw [if_pos (hL 10 (by decide))]
  clear hq3
  clear hcl hL
  have hB := hB.trans (hB0.mono hB.size)
  have hX1 := hX1.up hB0
  have hX2 := hX2.up hB0
  have hX5 := hX5.up hB0
  clear hB0
  obtain ⟨w7, hW⟩ : ∃ W, W = wz := ⟨_, rfl⟩
  rw [← hW] at hX1 hX2 hX5 hX8 hB ⊢
  clear hW
  have c9 := hX8.cell 0 (by omega)
  have c10 := hX8.cell 1 (by omega)
  have c11 := hX5.cell 0 (by omega)
  have c12 := hX5.cell 1 (by omega)
  go_wp2_with fail
  clear c9 c10 c11 c12
  refine (Hq0.out _).mono ?_
  rintro e w13 ⟨rfl, hb⟩
  have hB := nx hB hb
  have hX1 := hX1.up hb
  have hX2 := hX2.up hb
  have hX5 := hX5.up hb
  have hX8 := hX8.up hb
  clear hb
  cases z
  all_goals
    go_wp2_with fail
    go_ret
    exact ⟨rfl, hB⟩

theorem laidOut : laidOutB Try.prog = true := by kernel_rfl
set_option maxRecDepth 100000 in
/-- What the walk gives, for every argument. -/
theorem contract (H : Type) (enc : TypeId × Value → H) (W : World) (base : Nat) (args : Array Value) (ds gs : List (DataW H)) (before : List MemPlace)
    (hval : ∀ (j : Nat) t v, Try.f6.params[j]? = some t → args[j]? = some v → Value.okWide Try.prog W .any base t v)
    (hW : DataW.Whole enc Try.prog Try.f6.params.toList Rows.fnExactFirstWinsSpec.vars false W args.toList ds gs before) :
    Calls Try.prog 6 args W fun e W' => ∃ v, e = .returned v ∧ Rows.fnExactFirstWinsSpec.post enc Try.prog Try.f6 false true false false W args v W' := by
  have hW' := hW
  obtain ⟨p, q, hA0, hV, rfl, hfz, hnd⟩ := hW
  have hA : DataW.TrodAll enc Try.prog W 0 (fun _ => true) true Try.f6.params.toList args.toList ds p := hA0
  rw [Try.params6] at hA hval
  obtain ⟨v0, vs0, d0, ds0, p0, q0, hargs, rfl, rfl, h0, r0⟩ := trodAll_cons hA
  obtain ⟨v1, vs1, d1, ds1, p1, q1, rfl, rfl, rfl, h1, r1⟩ := trodAll_cons r0
  obtain ⟨v2, vs2, d2, ds2, p2, q2, rfl, rfl, rfl, h2, r2⟩ := trodAll_cons r1
  obtain ⟨rfl, rfl, rfl⟩ := trodAll_nil r2
  obtain rfl : args = #[v0, v1, v2] := by cases args; simp_all
  obtain ⟨rfl, rfl⟩ := trodVars_none hV
  obtain ⟨a0, rfl, w0⟩ := OpenD.die_of (hval 0 22 v0 rfl rfl) h0
  have k0 := h0
  have lt0 : ∀ x ∈ p0, x.block < W.heap.size := fun x hx => by have := hW'.lt x (by simp [hx]); simpa using this
  obtain ⟨a1, rfl, w1⟩ := OpenD.die_of (hval 1 22 v1 rfl rfl) h1
  have k1 := h1
  have lt1 : ∀ x ∈ p1, x.block < W.heap.size := fun x hx => by have := hW'.lt x (by simp [hx]); simpa using this
  obtain ⟨a2, rfl, rfl, rfl, wf2⟩ := open_int Try.underlying3 (hval 2 3 v2 rfl rfl) h2
  have w2 : -9223372036854775808 ≤ a2 ∧ a2 ≤ 9223372036854775807 := by simpa [Lit.wf, IntKind.min, IntKind.max, IntKind.bits, IntKind.signed] using wf2
  clear hA0
  simp only [List.append_nil] at hW'
  refine (law_any a0 a1 a2 W).mono fun e W' ⟨he, hg⟩ => ?_
  subst he
  exact ⟨_, rfl, _, _, _, [], (p0 ++ (p1 ++ ([] ++ []))), [], hW', trodAll_cons_mk (shut_bool Try.underlying4 _) trodAll_mk0, trodAll_cons_mk (Below.trod laidOut (by kernel_rfl) (of_decide_eq_true (by kernel_rfl)) k0 hg lt0) (trodAll_cons_mk (Below.trod laidOut (by kernel_rfl) (of_decide_eq_true (by kernel_rfl)) k1 hg lt1) (trodAll_cons_mk (shut_int Try.underlying3 wf2) trodAll_mk0)), rfl, hg.frame _, fun h => by cases h⟩

theorem own : ownKnob Try.prog.godebug = none := by kernel_rfl

set_option maxRecDepth 100000 in
theorem lifted (os : Os) (started : os.Started) (H : Type) (enc : TypeId × Value → H) :
    ReturnsInHanded {} Try.checked os 6 .any (Rows.fnExactFirstWinsSpec.pre6 enc Try.prog Try.f6 Rows.fnExactFirstWinsRow.domain false) (Rows.fnExactFirstWinsSpec.post enc Try.prog Try.f6 false true false false) := by
  refine returnsInHanded_of_change (C := Try.checked) own started (by kernel_rfl) Try.func6
    (ChangeSpec.witness6 (enc := enc) (C := Try.checked) false ⟨#[], #[.agg #[.int .i64 0, .int .i64 0, .int .i64 0, .int .i64 0, .int .i64 0, .int .i64 0], .agg #[.int .i64 0, .int .i64 0, .int .i64 0, .int .i64 0, .int .i64 0, .int .i64 0], .int .i64 0], []⟩ 8 (by kernel_rfl) (by kernel_rfl) (by kernel_rfl) (by kernel_rfl)) ?_
  intro W base args ds gs before hval hW _ _
  exact contract H enc W base args ds gs before hval hW

theorem holds : Rows.FnExactFirstWinsSaid :=
  OpenClaim.holds_of_wide 6 Try.f6 rfl rfl rfl rfl rfl rfl rfl ⟨rfl, rfl, rfl, rfl, rfl⟩ rfl rfl rfl rfl rfl (by kernel_rfl) Try.func6 (by kernel_rfl)
    (of_decide_eq_true (by kernel_rfl)) (by unfold Func.isWrapper; rw [if_neg (by decide +kernel)]; exact ⟨rfl, rfl⟩)
    (fun os started H enc _ => lifted os started H enc)

end FirstWinsP
end Go.Proofs.Ytcffglnfdnanhaa
