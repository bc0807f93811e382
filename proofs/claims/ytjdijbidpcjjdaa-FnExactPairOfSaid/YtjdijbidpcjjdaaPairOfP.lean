/-
  FnExactPairOf: for every two arrays of six numbers the law returns true, and the arrays read afterwards as they read before. No condition.
-/
import Derived.Test.YtjdijbidpcjjdaaRows
import Derived.Test.YtjdijbidpcjjdaaPofW
import Derived.Test.YtjdijbidpcjjdaaGoodW
import Derived.Test.YtjdijbidpcjjdaaToP
import Derived.Test.YtjdijbidpcjjdaaAnyR
import Derived.Test.YtjdijbidpcjjdaaSgnW
import Derived.Test.YtjdijbidpcjjdaaLessW
import Derived.Test.YtjdijbidpcjjdaaPairA
import Derived.Test.YtjdijbidpcjjdaaSortW
import Derived.Test.YtjdijbidpcjjdaaOpenD
import Derived.WalkKit
import Derived.WalkLawsBesides
import Derived.WalkSpells
import Derived.ProofKit
import Derived.OpenShut
import Derived.Deep.RegionWith
import Derived.Deep.QuietTactic
import Derived.BigQuiet
namespace Go.Proofs.Ytjdijbidpcjjdaa
open Go.ChangeShapes Go.WideShapes Go.ChangeAt Go.RowKit
open Go.ChangeMaps (open_string shut_string)

namespace PairOfP
open Dice Arr DieW SortW LessW SgnW PairA ToP GoodW PofW AnyR

def frA (a b : Nat → Int) (h : Nat) (u5 u6 u9 u10 u11 u12 u13 u14 u15 u16 : Value) : Act := ⟨#[(.agg #[.int .i64 (a 0), .int .i64 (a 1), .int .i64 (a 2), .int .i64 (a 3), .int .i64 (a 4), .int .i64 (a 5)]), (.agg #[.int .i64 (b 0), .int .i64 (b 1), .int .i64 (b 2), .int .i64 (b 3), .int .i64 (b 4), .int .i64 (b 5)]), .pointer (some ⟨h, 0, none⟩), .pointer (some ⟨h + 1, 0, none⟩), .bool false, u5, u6, undef, undef, u9, u10, u11, u12, u13, u14, u15, u16, undef, undef, undef, undef, undef, undef, undef, undef, undef, undef, undef, undef, undef, undef, undef, undef, undef], []⟩
def frB (a b x y : Nat → Int) (c : Bool) (h k : Nat) (u7 u8 u17 u18 u19 u20 u21 u22 u23 u24 : Value) : Act := ⟨#[(.agg #[.int .i64 (a 0), .int .i64 (a 1), .int .i64 (a 2), .int .i64 (a 3), .int .i64 (a 4), .int .i64 (a 5)]), (.agg #[.int .i64 (b 0), .int .i64 (b 1), .int .i64 (b 2), .int .i64 (b 3), .int .i64 (b 4), .int .i64 (b 5)]), .pointer (some ⟨h, 0, none⟩), .pointer (some ⟨h + 1, 0, none⟩), .bool false, .pointer (some ⟨k, 0, none⟩), .bool c, u7, u8, (.tuple #[(.agg #[.int .i64 (x 0), .int .i64 (x 1), .int .i64 (x 2), .int .i64 (x 3), .int .i64 (x 4), .int .i64 (x 5), .int .i64 (y 0), .int .i64 (y 1), .int .i64 (y 2), .int .i64 (y 3), .int .i64 (y 4), .int .i64 (y 5)]), .bool c]), (.agg #[.int .i64 (a 0), .int .i64 (a 1), .int .i64 (a 2), .int .i64 (a 3), .int .i64 (a 4), .int .i64 (a 5)]), (.agg #[.int .i64 (a 0), .int .i64 (a 1), .int .i64 (a 2), .int .i64 (a 3), .int .i64 (a 4), .int .i64 (a 5)]), (.agg #[.int .i64 (b 0), .int .i64 (b 1), .int .i64 (b 2), .int .i64 (b 3), .int .i64 (b 4), .int .i64 (b 5)]), (.agg #[.int .i64 (b 0), .int .i64 (b 1), .int .i64 (b 2), .int .i64 (b 3), .int .i64 (b 4), .int .i64 (b 5)]), (.tuple #[(.agg #[.int .i64 (x 0), .int .i64 (x 1), .int .i64 (x 2), .int .i64 (x 3), .int .i64 (x 4), .int .i64 (x 5), .int .i64 (y 0), .int .i64 (y 1), .int .i64 (y 2), .int .i64 (y 3), .int .i64 (y 4), .int .i64 (y 5)]), .bool c]), (.agg #[.int .i64 (x 0), .int .i64 (x 1), .int .i64 (x 2), .int .i64 (x 3), .int .i64 (x 4), .int .i64 (x 5), .int .i64 (y 0), .int .i64 (y 1), .int .i64 (y 2), .int .i64 (y 3), .int .i64 (y 4), .int .i64 (y 5)]), .bool c, u17, u18, u19, u20, u21, u22, u23, u24, undef, undef, undef, undef, undef, undef, undef, undef, undef], []⟩
set_option maxRecDepth 20000 in
set_option maxHeartbeats 8000000 in
theorem law_any (a b : Nat → Int) (w : World) : Calls Try.prog 4 #[dv a, dv b] w fun e w' => e = .returned (.bool true) ∧ Below w.heap.size w w' := by
  have ht := toA6_any
  have hs := specPairOf_any a b
  have hi := implPairOf_any a b
  obtain ⟨x, y, c, ho⟩ : ∃ x y c, ppair a b = #[pv x y, .bool c] := by
    unfold ppair
    cases isDie a && isDie b
    · exact ⟨_, _, _, rfl⟩
    · exact ⟨_, _, _, rfl⟩
  rw [ho] at hs hi
  have hq := eqPair_any x y
  unfold dv at ht hs hi
  unfold pv at hs hi hq
  have Ht := Lib.hid ht; clear ht
  have Hs := Lib.hid hs; clear hs
  have Hi := Lib.hid hi; clear hi
  have Hq := Lib.hid hq; clear hq
  clear ho
  have ha := (At.new6 w a 22 rfl).past (sixO b 22)
  have hb := At.new6 (w.alloc (sixO a 22)) b 22 (b := w.heap.size + 1) (by rw [size_alloc])
  have hB := na (na (n0 w) (sixO a 22)) (sixO b 22)
  show Calls Try.prog 4 #[.agg #[.int .i64 (a 0), .int .i64 (a 1), .int .i64 (a 2), .int .i64 (a 3), .int .i64 (a 4), .int .i64 (a 5)], .agg #[.int .i64 (b 0), .int .i64 (b 1), .int .i64 (b 2), .int .i64 (b 3), .int .i64 (b 4), .int .i64 (b 5)]] w fun e w' => e = .returned (.bool true) ∧ Below w.heap.size w w'
  go_enter Try.func4, Try.ntmps4
  go_wp2_with fail
  obtain ⟨W, hW⟩ : ∃ W, W = (w.alloc (sixO a 22)).alloc (sixO b 22) := ⟨_, rfl⟩
  rw [← hW] at ha hb hB ⊢
  clear hW
  refine wp_region_inc (I := fun L az w' => ∃ u5 u6 u9 u10 u11 u12 u13 u14 u15 u16 : Value, az = frA a b w.heap.size u5 u6 u9 u10 u11 u12 u13 u14 u15 u16 ∧ (L 0 = true → u10 = (.agg #[.int .i64 (a 0), .int .i64 (a 1), .int .i64 (a 2), .int .i64 (a 3), .int .i64 (a 4), .int .i64 (a 5)])) ∧ (L 1 = true → u11 = (.agg #[.int .i64 (a 0), .int .i64 (a 1), .int .i64 (a 2), .int .i64 (a 3), .int .i64 (a 4), .int .i64 (a 5)])) ∧ (L 2 = true → u12 = (.agg #[.int .i64 (b 0), .int .i64 (b 1), .int .i64 (b 2), .int .i64 (b 3), .int .i64 (b 4), .int .i64 (b 5)])) ∧ (L 3 = true → u13 = (.agg #[.int .i64 (b 0), .int .i64 (b 1), .int .i64 (b 2), .int .i64 (b 3), .int .i64 (b 4), .int .i64 (b 5)])) ∧ (L 4 = true → u14 = (.tuple #[(.agg #[.int .i64 (x 0), .int .i64 (x 1), .int .i64 (x 2), .int .i64 (x 3), .int .i64 (x 4), .int .i64 (x 5), .int .i64 (y 0), .int .i64 (y 1), .int .i64 (y 2), .int .i64 (y 3), .int .i64 (y 4), .int .i64 (y 5)]), .bool c])) ∧ (L 5 = true → u9 = (.tuple #[(.agg #[.int .i64 (x 0), .int .i64 (x 1), .int .i64 (x 2), .int .i64 (x 3), .int .i64 (x 4), .int .i64 (x 5), .int .i64 (y 0), .int .i64 (y 1), .int .i64 (y 2), .int .i64 (y 3), .int .i64 (y 4), .int .i64 (y 5)]), .bool c])) ∧ (L 6 = true → u15 = (.agg #[.int .i64 (x 0), .int .i64 (x 1), .int .i64 (x 2), .int .i64 (x 3), .int .i64 (x 4), .int .i64 (x 5), .int .i64 (y 0), .int .i64 (y 1), .int .i64 (y 2), .int .i64 (y 3), .int .i64 (y 4), .int .i64 (y 5)])) ∧ (L 7 = true → u16 = (.bool c)) ∧ (L 10 = true → u6 = (.bool c)) ∧ Below W.heap.size W w' ∧ (L 8 = true → ∃ q, u5 = .pointer (some ⟨q, 0, none⟩) ∧ W.heap.size ≤ q ∧ At w' q 12 (fun k => if L 9 = true then (pr x y) k else 0))) (by kernel_rfl) (by kernel_rfl) ?_ ?_ ?_
  · exact ⟨_, _, _, _, _, _, _, _, _, _, rfl, (fun h => by cases h), (fun h => by cases h), (fun h => by cases h), (fun h => by cases h), (fun h => by cases h), (fun h => by cases h), (fun h => by cases h), (fun h => by cases h), (fun h => by cases h), ((Below.refl _ W).drew), (fun h => by cases h)⟩
  · intro L az wz i hi hL hdep hcl hI
    obtain ⟨u5, u6, u9, u10, u11, u12, u13, u14, u15, u16, rfl, e0, e1, e2, e3, e4, e5, e6, e7, e10, hB0, hA0⟩ := hI
    have hi' : i < 11 := hi
    clear hi
    obtain rfl | rfl | rfl | rfl | rfl | rfl | rfl | rfl | rfl | rfl | rfl : i = 0 ∨ i = 1 ∨ i = 2 ∨ i = 3 ∨ i = 4 ∨ i = 5 ∨ i = 6 ∨ i = 7 ∨ i = 8 ∨ i = 9 ∨ i = 10 := by omega
    · obtain ⟨a0, a1, a2, a3, a4, a5⟩ := (ha.up hB0).six
      have HB := Lib.hid hB0; clear hB0
      refine wpOp_want rfl rfl ?_
      unfold frA
      go_simp
      exact ⟨u5, u6, u9, (.agg #[.int .i64 (a 0), .int .i64 (a 1), .int .i64 (a 2), .int .i64 (a 3), .int .i64 (a 4), .int .i64 (a 5)]), u11, u12, u13, u14, u15, u16, by first | rfl | simp, fun _ => rfl, e1, e2, e3, e4, e5, e6, e7, e10, HB.out, hA0⟩
    · obtain rfl := e0 (hdep 0 (by kernel_rfl))
      have HB := Lib.hid hB0; clear hB0
      refine wpOp_want rfl rfl ?_
      unfold frA
      go_simp
      refine (Ht.out a _).mono ?_
      rintro e w9 ⟨rfl, hb⟩
      go_simp
      exact ⟨u5, u6, u9, (.agg #[.int .i64 (a 0), .int .i64 (a 1), .int .i64 (a 2), .int .i64 (a 3), .int .i64 (a 4), .int .i64 (a 5)]), (.agg #[.int .i64 (a 0), .int .i64 (a 1), .int .i64 (a 2), .int .i64 (a 3), .int .i64 (a 4), .int .i64 (a 5)]), u12, u13, u14, u15, u16, by first | rfl | simp, fun _ => rfl, fun _ => rfl, e2, e3, e4, e5, e6, e7, e10, HB.out.trans (hb.mono HB.out.size), (fun h1 => by obtain ⟨q, e, hq, hA⟩ := hA0 h1; exact ⟨q, e, hq, hA.up hb⟩)⟩
    · obtain ⟨b0, b1, b2, b3, b4, b5⟩ := (hb.up hB0).six
      have HB := Lib.hid hB0; clear hB0
      refine wpOp_want rfl rfl ?_
      unfold frA
      go_simp
      exact ⟨u5, u6, u9, u10, u11, (.agg #[.int .i64 (b 0), .int .i64 (b 1), .int .i64 (b 2), .int .i64 (b 3), .int .i64 (b 4), .int .i64 (b 5)]), u13, u14, u15, u16, by first | rfl | simp, e0, e1, fun _ => rfl, e3, e4, e5, e6, e7, e10, HB.out, hA0⟩
    · obtain rfl := e2 (hdep 2 (by kernel_rfl))
      have HB := Lib.hid hB0; clear hB0
      refine wpOp_want rfl rfl ?_
      unfold frA
      go_simp
      refine (Ht.out b _).mono ?_
      rintro e w9 ⟨rfl, hb⟩
      go_simp
      exact ⟨u5, u6, u9, u10, u11, (.agg #[.int .i64 (b 0), .int .i64 (b 1), .int .i64 (b 2), .int .i64 (b 3), .int .i64 (b 4), .int .i64 (b 5)]), (.agg #[.int .i64 (b 0), .int .i64 (b 1), .int .i64 (b 2), .int .i64 (b 3), .int .i64 (b 4), .int .i64 (b 5)]), u14, u15, u16, by first | rfl | simp, e0, e1, fun _ => rfl, fun _ => rfl, e4, e5, e6, e7, e10, HB.out.trans (hb.mono HB.out.size), (fun h1 => by obtain ⟨q, e, hq, hA⟩ := hA0 h1; exact ⟨q, e, hq, hA.up hb⟩)⟩
    · obtain rfl := e1 (hdep 1 (by kernel_rfl))
      obtain rfl := e3 (hdep 3 (by kernel_rfl))
      have HB := Lib.hid hB0; clear hB0
      refine wpOp_want rfl rfl ?_
      unfold frA
      go_simp
      refine (Hs.out _).mono ?_
      rintro e w9 ⟨rfl, hb⟩
      go_simp
      exact ⟨u5, u6, u9, u10, (.agg #[.int .i64 (a 0), .int .i64 (a 1), .int .i64 (a 2), .int .i64 (a 3), .int .i64 (a 4), .int .i64 (a 5)]), u12, (.agg #[.int .i64 (b 0), .int .i64 (b 1), .int .i64 (b 2), .int .i64 (b 3), .int .i64 (b 4), .int .i64 (b 5)]), (.tuple #[(.agg #[.int .i64 (x 0), .int .i64 (x 1), .int .i64 (x 2), .int .i64 (x 3), .int .i64 (x 4), .int .i64 (x 5), .int .i64 (y 0), .int .i64 (y 1), .int .i64 (y 2), .int .i64 (y 3), .int .i64 (y 4), .int .i64 (y 5)]), .bool c]), u15, u16, by first | rfl | simp, e0, fun _ => rfl, e2, fun _ => rfl, fun _ => rfl, e5, e6, e7, e10, HB.out.trans (hb.mono HB.out.size), (fun h1 => by obtain ⟨q, e, hq, hA⟩ := hA0 h1; exact ⟨q, e, hq, hA.up hb⟩)⟩
    · obtain rfl := e4 (hdep 4 (by kernel_rfl))
      refine wpOp_want rfl rfl (Oper.wp_of_quiet (C := fun w' => w' = wz) (K := fun a' => a' = frA a b w.heap.size (u5) (u6) ((.tuple #[(.agg #[.int .i64 (x 0), .int .i64 (x 1), .int .i64 (x 2), .int .i64 (x 3), .int .i64 (x 4), .int .i64 (x 5), .int .i64 (y 0), .int .i64 (y 1), .int .i64 (y 2), .int .i64 (y 3), .int .i64 (y 4), .int .i64 (y 5)]), .bool c])) (u10) (u11) (u12) (u13) ((.tuple #[(.agg #[.int .i64 (x 0), .int .i64 (x 1), .int .i64 (x 2), .int .i64 (x 3), .int .i64 (x 4), .int .i64 (x 5), .int .i64 (y 0), .int .i64 (y 1), .int .i64 (y 2), .int .i64 (y 3), .int .i64 (y 4), .int .i64 (y 5)]), .bool c])) (u15) (u16)) rfl ?_ ?_)
      · intro a' w' hC' hK
        subst hK
        subst hC'
        exact ⟨u5, u6, (.tuple #[(.agg #[.int .i64 (x 0), .int .i64 (x 1), .int .i64 (x 2), .int .i64 (x 3), .int .i64 (x 4), .int .i64 (x 5), .int .i64 (y 0), .int .i64 (y 1), .int .i64 (y 2), .int .i64 (y 3), .int .i64 (y 4), .int .i64 (y 5)]), .bool c]), u10, u11, u12, u13, (.tuple #[(.agg #[.int .i64 (x 0), .int .i64 (x 1), .int .i64 (x 2), .int .i64 (x 3), .int .i64 (x 4), .int .i64 (x 5), .int .i64 (y 0), .int .i64 (y 1), .int .i64 (y 2), .int .i64 (y 3), .int .i64 (y 4), .int .i64 (y 5)]), .bool c]), u15, u16, by first | rfl | simp, e0, e1, e2, e3, fun _ => rfl, fun _ => rfl, e6, e7, e10, hB0, hA0⟩
      · exact BigFrame.quiet_move _ rfl rfl
    · obtain rfl := e5 (hdep 5 (by kernel_rfl))
      refine wpOp_want rfl rfl (Oper.wp_of_quiet (C := fun w' => w' = wz) (K := fun a' => a' = frA a b w.heap.size (u5) (u6) ((.tuple #[(.agg #[.int .i64 (x 0), .int .i64 (x 1), .int .i64 (x 2), .int .i64 (x 3), .int .i64 (x 4), .int .i64 (x 5), .int .i64 (y 0), .int .i64 (y 1), .int .i64 (y 2), .int .i64 (y 3), .int .i64 (y 4), .int .i64 (y 5)]), .bool c])) (u10) (u11) (u12) (u13) (u14) ((.agg #[.int .i64 (x 0), .int .i64 (x 1), .int .i64 (x 2), .int .i64 (x 3), .int .i64 (x 4), .int .i64 (x 5), .int .i64 (y 0), .int .i64 (y 1), .int .i64 (y 2), .int .i64 (y 3), .int .i64 (y 4), .int .i64 (y 5)])) (u16)) rfl ?_ ?_)
      · intro a' w' hC' hK
        subst hK
        subst hC'
        exact ⟨u5, u6, (.tuple #[(.agg #[.int .i64 (x 0), .int .i64 (x 1), .int .i64 (x 2), .int .i64 (x 3), .int .i64 (x 4), .int .i64 (x 5), .int .i64 (y 0), .int .i64 (y 1), .int .i64 (y 2), .int .i64 (y 3), .int .i64 (y 4), .int .i64 (y 5)]), .bool c]), u10, u11, u12, u13, u14, (.agg #[.int .i64 (x 0), .int .i64 (x 1), .int .i64 (x 2), .int .i64 (x 3), .int .i64 (x 4), .int .i64 (x 5), .int .i64 (y 0), .int .i64 (y 1), .int .i64 (y 2), .int .i64 (y 3), .int .i64 (y 4), .int .i64 (y 5)]), u16, by first | rfl | simp, e0, e1, e2, e3, e4, fun _ => rfl, fun _ => rfl, e7, e10, hB0, hA0⟩
      · exact ⟨(.agg #[.int .i64 (x 0), .int .i64 (x 1), .int .i64 (x 2), .int .i64 (x 3), .int .i64 (x 4), .int .i64 (x 5), .int .i64 (y 0), .int .i64 (y 1), .int .i64 (y 2), .int .i64 (y 3), .int .i64 (y 4), .int .i64 (y 5)]), fun w' hw' => ⟨rfl, rfl⟩, rfl⟩
    · obtain rfl := e5 (hdep 5 (by kernel_rfl))
      refine wpOp_want rfl rfl (Oper.wp_of_quiet (C := fun w' => w' = wz) (K := fun a' => a' = frA a b w.heap.size (u5) (u6) ((.tuple #[(.agg #[.int .i64 (x 0), .int .i64 (x 1), .int .i64 (x 2), .int .i64 (x 3), .int .i64 (x 4), .int .i64 (x 5), .int .i64 (y 0), .int .i64 (y 1), .int .i64 (y 2), .int .i64 (y 3), .int .i64 (y 4), .int .i64 (y 5)]), .bool c])) (u10) (u11) (u12) (u13) (u14) (u15) ((.bool c))) rfl ?_ ?_)
      · intro a' w' hC' hK
        subst hK
        subst hC'
        exact ⟨u5, u6, (.tuple #[(.agg #[.int .i64 (x 0), .int .i64 (x 1), .int .i64 (x 2), .int .i64 (x 3), .int .i64 (x 4), .int .i64 (x 5), .int .i64 (y 0), .int .i64 (y 1), .int .i64 (y 2), .int .i64 (y 3), .int .i64 (y 4), .int .i64 (y 5)]), .bool c]), u10, u11, u12, u13, u14, u15, (.bool c), by first | rfl | simp, e0, e1, e2, e3, e4, fun _ => rfl, e6, fun _ => rfl, e10, hB0, hA0⟩
      · exact ⟨(.bool c), fun w' hw' => ⟨rfl, rfl⟩, rfl⟩
    · have h9f : L 9 = false := by cases h : L 9; rfl; exact absurd (hcl 9 8 h (by kernel_rfl)) (by rw [hL]; decide)
      have HB := Lib.hid hB0; clear hB0
      refine wpOp_want rfl rfl ?_
      unfold frA
      go_simp
      exact ⟨.pointer (some ⟨wz.heap.size, 0, none⟩), u6, u9, u10, u11, u12, u13, u14, u15, u16, by first | rfl | simp, e0, e1, e2, e3, e4, e5, e6, e7, e10, HB.out.alloc HB.out.size _, (fun _ => ⟨_, rfl, HB.out.size, At.congr (zero12 wz rfl) (fun k _ => by show (0 : Int) = if L 9 = true then _ else 0; rw [h9f]; rfl)⟩)⟩
    · obtain rfl := e6 (hdep 6 (by kernel_rfl))
      obtain ⟨q, rfl, hq2, hq3⟩ := hA0 (hdep 8 (by kernel_rfl))
      have hq3' : At wz q 12 (fun _ => 0) := hq3.congr (fun k _ => by show (if L 9 = true then _ else 0) = (0 : Int); rw [hL]; rfl)
      have o0 := hq3'.cell 0 (by omega)
      have z0 := hq3'.free 0
      have o1 := hq3'.cell 1 (by omega)
      have z1 := hq3'.free 1
      have o2 := hq3'.cell 2 (by omega)
      have z2 := hq3'.free 2
      have o3 := hq3'.cell 3 (by omega)
      have z3 := hq3'.free 3
      have o4 := hq3'.cell 4 (by omega)
      have z4 := hq3'.free 4
      have o5 := hq3'.cell 5 (by omega)
      have z5 := hq3'.free 5
      have o6 := hq3'.cell 6 (by omega)
      have z6 := hq3'.free 6
      have o7 := hq3'.cell 7 (by omega)
      have z7 := hq3'.free 7
      have o8 := hq3'.cell 8 (by omega)
      have z8 := hq3'.free 8
      have o9 := hq3'.cell 9 (by omega)
      have z9 := hq3'.free 9
      have o10 := hq3'.cell 10 (by omega)
      have z10 := hq3'.free 10
      have o11 := hq3'.cell 11 (by omega)
      have z11 := hq3'.free 11
      have HB := Lib.hid hB0; clear hB0
      refine wpOp_want rfl rfl ?_
      unfold frA
      go_simp
      exact ⟨.pointer (some ⟨q, 0, none⟩), u6, u9, u10, u11, u12, u13, u14, (.agg #[.int .i64 (x 0), .int .i64 (x 1), .int .i64 (x 2), .int .i64 (x 3), .int .i64 (x 4), .int .i64 (x 5), .int .i64 (y 0), .int .i64 (y 1), .int .i64 (y 2), .int .i64 (y 3), .int .i64 (y 4), .int .i64 (y 5)]), u16, by first | rfl | simp, e0, e1, e2, e3, e4, e5, fun _ => rfl, e7, e10, HB.out.trans (setCells_below (p := q) (B := W.heap.size) hq2 (vals 12 (pr x y)) 0), (fun _ => ⟨q, rfl, hq2, At.congr (hq3'.stored (pr x y)) (fun k _ => rfl)⟩)⟩
    · obtain rfl := e7 (hdep 7 (by kernel_rfl))
      refine wpOp_want rfl rfl (Oper.wp_of_quiet (C := fun w' => w' = wz) (K := fun a' => a' = frA a b w.heap.size (u5) ((.bool c)) (u9) (u10) (u11) (u12) (u13) (u14) (u15) ((.bool c))) rfl ?_ ?_)
      · intro a' w' hC' hK
        subst hK
        subst hC'
        exact ⟨u5, (.bool c), u9, u10, u11, u12, u13, u14, u15, (.bool c), by first | rfl | simp, e0, e1, e2, e3, e4, e5, e6, fun _ => rfl, fun _ => rfl, hB0, hA0⟩
      · exact BigFrame.quiet_assign _ rfl rfl
  intro L az wz hL hcl hI
  obtain ⟨u5, u6, u9, u10, u11, u12, u13, u14, u15, u16, rfl, e0, e1, e2, e3, e4, e5, e6, e7, e10, hB0, hA0⟩ := hI
  obtain rfl := e0 (hL 0 (by decide))
  obtain rfl := e1 (hL 1 (by decide))
  obtain rfl := e2 (hL 2 (by decide))
  obtain rfl := e3 (hL 3 (by decide))
  obtain rfl := e4 (hL 4 (by decide))
  obtain rfl := e5 (hL 5 (by decide))
  obtain rfl := e6 (hL 6 (by decide))
  obtain rfl := e7 (hL 7 (by decide))
  obtain rfl := e10 (hL 10 (by decide))
  obtain ⟨q1, rfl, hlq1, hq3⟩ := hA0 (hL 8 (by decide))
  have hq1 : At wz q1 12 (pr x y) := hq3.congr fun k hk => by rw [if_pos (hL 9 (by decide))]
  clear hq3
  clear hcl hL
  unfold frA
  have hB := hB.trans (hB0.mono hB.size)
  have ha := ha.up hB0
  have hb := hb.up hB0
  clear hB0
  go_wp2_with fail
  obtain ⟨W2, hW2⟩ : ∃ W2, W2 = wz := ⟨_, rfl⟩
  rw [← hW2] at ha hb hB hq1 ⊢
  clear hW2
  refine wp_region_inc (I := fun L az w' => ∃ u7 u8 u17 u18 u19 u20 u21 u22 u23 u24 : Value, az = frB a b x y c w.heap.size q1 u7 u8 u17 u18 u19 u20 u21 u22 u23 u24 ∧ (L 0 = true → u18 = (.agg #[.int .i64 (a 0), .int .i64 (a 1), .int .i64 (a 2), .int .i64 (a 3), .int .i64 (a 4), .int .i64 (a 5)])) ∧ (L 1 = true → u19 = (.agg #[.int .i64 (a 0), .int .i64 (a 1), .int .i64 (a 2), .int .i64 (a 3), .int .i64 (a 4), .int .i64 (a 5)])) ∧ (L 2 = true → u20 = (.agg #[.int .i64 (b 0), .int .i64 (b 1), .int .i64 (b 2), .int .i64 (b 3), .int .i64 (b 4), .int .i64 (b 5)])) ∧ (L 3 = true → u21 = (.agg #[.int .i64 (b 0), .int .i64 (b 1), .int .i64 (b 2), .int .i64 (b 3), .int .i64 (b 4), .int .i64 (b 5)])) ∧ (L 4 = true → u22 = (.tuple #[(.agg #[.int .i64 (x 0), .int .i64 (x 1), .int .i64 (x 2), .int .i64 (x 3), .int .i64 (x 4), .int .i64 (x 5), .int .i64 (y 0), .int .i64 (y 1), .int .i64 (y 2), .int .i64 (y 3), .int .i64 (y 4), .int .i64 (y 5)]), .bool c])) ∧ (L 5 = true → u17 = (.tuple #[(.agg #[.int .i64 (x 0), .int .i64 (x 1), .int .i64 (x 2), .int .i64 (x 3), .int .i64 (x 4), .int .i64 (x 5), .int .i64 (y 0), .int .i64 (y 1), .int .i64 (y 2), .int .i64 (y 3), .int .i64 (y 4), .int .i64 (y 5)]), .bool c])) ∧ (L 6 = true → u23 = (.agg #[.int .i64 (x 0), .int .i64 (x 1), .int .i64 (x 2), .int .i64 (x 3), .int .i64 (x 4), .int .i64 (x 5), .int .i64 (y 0), .int .i64 (y 1), .int .i64 (y 2), .int .i64 (y 3), .int .i64 (y 4), .int .i64 (y 5)])) ∧ (L 7 = true → u24 = (.bool c)) ∧ (L 10 = true → u8 = (.bool c)) ∧ Below W2.heap.size W2 w' ∧ (L 8 = true → ∃ q, u7 = .pointer (some ⟨q, 0, none⟩) ∧ W2.heap.size ≤ q ∧ At w' q 12 (fun k => if L 9 = true then (pr x y) k else 0))) (by kernel_rfl) (by kernel_rfl) ?_ ?_ ?_
  · exact ⟨_, _, _, _, _, _, _, _, _, _, rfl, (fun h => by cases h), (fun h => by cases h), (fun h => by cases h), (fun h => by cases h), (fun h => by cases h), (fun h => by cases h), (fun h => by cases h), (fun h => by cases h), (fun h => by cases h), ((Below.refl _ W2).drew), (fun h => by cases h)⟩
  · intro L az wz i hi hL hdep hcl hI
    obtain ⟨u7, u8, u17, u18, u19, u20, u21, u22, u23, u24, rfl, e0, e1, e2, e3, e4, e5, e6, e7, e10, hB0, hA0⟩ := hI
    have hi' : i < 11 := hi
    clear hi
    obtain rfl | rfl | rfl | rfl | rfl | rfl | rfl | rfl | rfl | rfl | rfl : i = 0 ∨ i = 1 ∨ i = 2 ∨ i = 3 ∨ i = 4 ∨ i = 5 ∨ i = 6 ∨ i = 7 ∨ i = 8 ∨ i = 9 ∨ i = 10 := by omega
    · obtain ⟨a0, a1, a2, a3, a4, a5⟩ := (ha.up hB0).six
      have HB := Lib.hid hB0; clear hB0
      refine wpOp_want rfl rfl ?_
      unfold frB
      go_simp
      exact ⟨u7, u8, u17, (.agg #[.int .i64 (a 0), .int .i64 (a 1), .int .i64 (a 2), .int .i64 (a 3), .int .i64 (a 4), .int .i64 (a 5)]), u19, u20, u21, u22, u23, u24, by first | rfl | simp, fun _ => rfl, e1, e2, e3, e4, e5, e6, e7, e10, HB.out, hA0⟩
    · obtain rfl := e0 (hdep 0 (by kernel_rfl))
      have HB := Lib.hid hB0; clear hB0
      refine wpOp_want rfl rfl ?_
      unfold frB
      go_simp
      refine (Ht.out a _).mono ?_
      rintro e w9 ⟨rfl, hb⟩
      go_simp
      exact ⟨u7, u8, u17, (.agg #[.int .i64 (a 0), .int .i64 (a 1), .int .i64 (a 2), .int .i64 (a 3), .int .i64 (a 4), .int .i64 (a 5)]), (.agg #[.int .i64 (a 0), .int .i64 (a 1), .int .i64 (a 2), .int .i64 (a 3), .int .i64 (a 4), .int .i64 (a 5)]), u20, u21, u22, u23, u24, by first | rfl | simp, fun _ => rfl, fun _ => rfl, e2, e3, e4, e5, e6, e7, e10, HB.out.trans (hb.mono HB.out.size), (fun h1 => by obtain ⟨q, e, hq, hA⟩ := hA0 h1; exact ⟨q, e, hq, hA.up hb⟩)⟩
    · obtain ⟨b0, b1, b2, b3, b4, b5⟩ := (hb.up hB0).six
      have HB := Lib.hid hB0; clear hB0
      refine wpOp_want rfl rfl ?_
      unfold frB
      go_simp
      exact ⟨u7, u8, u17, u18, u19, (.agg #[.int .i64 (b 0), .int .i64 (b 1), .int .i64 (b 2), .int .i64 (b 3), .int .i64 (b 4), .int .i64 (b 5)]), u21, u22, u23, u24, by first | rfl | simp, e0, e1, fun _ => rfl, e3, e4, e5, e6, e7, e10, HB.out, hA0⟩
    · obtain rfl := e2 (hdep 2 (by kernel_rfl))
      have HB := Lib.hid hB0; clear hB0
      refine wpOp_want rfl rfl ?_
      unfold frB
      go_simp
      refine (Ht.out b _).mono ?_
      rintro e w9 ⟨rfl, hb⟩
      go_simp
      exact ⟨u7, u8, u17, u18, u19, (.agg #[.int .i64 (b 0), .int .i64 (b 1), .int .i64 (b 2), .int .i64 (b 3), .int .i64 (b 4), .int .i64 (b 5)]), (.agg #[.int .i64 (b 0), .int .i64 (b 1), .int .i64 (b 2), .int .i64 (b 3), .int .i64 (b 4), .int .i64 (b 5)]), u22, u23, u24, by first | rfl | simp, e0, e1, fun _ => rfl, fun _ => rfl, e4, e5, e6, e7, e10, HB.out.trans (hb.mono HB.out.size), (fun h1 => by obtain ⟨q, e, hq, hA⟩ := hA0 h1; exact ⟨q, e, hq, hA.up hb⟩)⟩
    · obtain rfl := e1 (hdep 1 (by kernel_rfl))
      obtain rfl := e3 (hdep 3 (by kernel_rfl))
      have HB := Lib.hid hB0; clear hB0
      refine wpOp_want rfl rfl ?_
      unfold frB
      go_simp
      refine (Hi.out _).mono ?_
      rintro e w9 ⟨rfl, hb⟩
      go_simp
      exact ⟨u7, u8, u17, u18, (.agg #[.int .i64 (a 0), .int .i64 (a 1), .int .i64 (a 2), .int .i64 (a 3), .int .i64 (a 4), .int .i64 (a 5)]), u20, (.agg #[.int .i64 (b 0), .int .i64 (b 1), .int .i64 (b 2), .int .i64 (b 3), .int .i64 (b 4), .int .i64 (b 5)]), (.tuple #[(.agg #[.int .i64 (x 0), .int .i64 (x 1), .int .i64 (x 2), .int .i64 (x 3), .int .i64 (x 4), .int .i64 (x 5), .int .i64 (y 0), .int .i64 (y 1), .int .i64 (y 2), .int .i64 (y 3), .int .i64 (y 4), .int .i64 (y 5)]), .bool c]), u23, u24, by first | rfl | simp, e0, fun _ => rfl, e2, fun _ => rfl, fun _ => rfl, e5, e6, e7, e10, HB.out.trans (hb.mono HB.out.size), (fun h1 => by obtain ⟨q, e, hq, hA⟩ := hA0 h1; exact ⟨q, e, hq, hA.up hb⟩)⟩
    · obtain rfl := e4 (hdep 4 (by kernel_rfl))
      refine wpOp_want rfl rfl (Oper.wp_of_quiet (C := fun w' => w' = wz) (K := fun a' => a' = frB a b x y c w.heap.size q1 (u7) (u8) ((.tuple #[(.agg #[.int .i64 (x 0), .int .i64 (x 1), .int .i64 (x 2), .int .i64 (x 3), .int .i64 (x 4), .int .i64 (x 5), .int .i64 (y 0), .int .i64 (y 1), .int .i64 (y 2), .int .i64 (y 3), .int .i64 (y 4), .int .i64 (y 5)]), .bool c])) (u18) (u19) (u20) (u21) ((.tuple #[(.agg #[.int .i64 (x 0), .int .i64 (x 1), .int .i64 (x 2), .int .i64 (x 3), .int .i64 (x 4), .int .i64 (x 5), .int .i64 (y 0), .int .i64 (y 1), .int .i64 (y 2), .int .i64 (y 3), .int .i64 (y 4), .int .i64 (y 5)]), .bool c])) (u23) (u24)) rfl ?_ ?_)
      · intro a' w' hC' hK
        subst hK
        subst hC'
        exact ⟨u7, u8, (.tuple #[(.agg #[.int .i64 (x 0), .int .i64 (x 1), .int .i64 (x 2), .int .i64 (x 3), .int .i64 (x 4), .int .i64 (x 5), .int .i64 (y 0), .int .i64 (y 1), .int .i64 (y 2), .int .i64 (y 3), .int .i64 (y 4), .int .i64 (y 5)]), .bool c]), u18, u19, u20, u21, (.tuple #[(.agg #[.int .i64 (x 0), .int .i64 (x 1), .int .i64 (x 2), .int .i64 (x 3), .int .i64 (x 4), .int .i64 (x 5), .int .i64 (y 0), .int .i64 (y 1), .int .i64 (y 2), .int .i64 (y 3), .int .i64 (y 4), .int .i64 (y 5)]), .bool c]), u23, u24, by first | rfl | simp, e0, e1, e2, e3, fun _ => rfl, fun _ => rfl, e6, e7, e10, hB0, hA0⟩
      · exact BigFrame.quiet_move _ rfl rfl
    · obtain rfl := e5 (hdep 5 (by kernel_rfl))
      refine wpOp_want rfl rfl (Oper.wp_of_quiet (C := fun w' => w' = wz) (K := fun a' => a' = frB a b x y c w.heap.size q1 (u7) (u8) ((.tuple #[(.agg #[.int .i64 (x 0), .int .i64 (x 1), .int .i64 (x 2), .int .i64 (x 3), .int .i64 (x 4), .int .i64 (x 5), .int .i64 (y 0), .int .i64 (y 1), .int .i64 (y 2), .int .i64 (y 3), .int .i64 (y 4), .int .i64 (y 5)]), .bool c])) (u18) (u19) (u20) (u21) (u22) ((.agg #[.int .i64 (x 0), .int .i64 (x 1), .int .i64 (x 2), .int .i64 (x 3), .int .i64 (x 4), .int .i64 (x 5), .int .i64 (y 0), .int .i64 (y 1), .int .i64 (y 2), .int .i64 (y 3), .int .i64 (y 4), .int .i64 (y 5)])) (u24)) rfl ?_ ?_)
      · intro a' w' hC' hK
        subst hK
        subst hC'
        exact ⟨u7, u8, (.tuple #[(.agg #[.int .i64 (x 0), .int .i64 (x 1), .int .i64 (x 2), .int .i64 (x 3), .int .i64 (x 4), .int .i64 (x 5), .int .i64 (y 0), .int .i64 (y 1), .int .i64 (y 2), .int .i64 (y 3), .int .i64 (y 4), .int .i64 (y 5)]), .bool c]), u18, u19, u20, u21, u22, (.agg #[.int .i64 (x 0), .int .i64 (x 1), .int .i64 (x 2), .int .i64 (x 3), .int .i64 (x 4), .int .i64 (x 5), .int .i64 (y 0), .int .i64 (y 1), .int .i64 (y 2), .int .i64 (y 3), .int .i64 (y 4), .int .i64 (y 5)]), u24, by first | rfl | simp, e0, e1, e2, e3, e4, fun _ => rfl, fun _ => rfl, e7, e10, hB0, hA0⟩
      · exact ⟨(.agg #[.int .i64 (x 0), .int .i64 (x 1), .int .i64 (x 2), .int .i64 (x 3), .int .i64 (x 4), .int .i64 (x 5), .int .i64 (y 0), .int .i64 (y 1), .int .i64 (y 2), .int .i64 (y 3), .int .i64 (y 4), .int .i64 (y 5)]), fun w' hw' => ⟨rfl, rfl⟩, rfl⟩
    · obtain rfl := e5 (hdep 5 (by kernel_rfl))
      refine wpOp_want rfl rfl (Oper.wp_of_quiet (C := fun w' => w' = wz) (K := fun a' => a' = frB a b x y c w.heap.size q1 (u7) (u8) ((.tuple #[(.agg #[.int .i64 (x 0), .int .i64 (x 1), .int .i64 (x 2), .int .i64 (x 3), .int .i64 (x 4), .int .i64 (x 5), .int .i64 (y 0), .int .i64 (y 1), .int .i64 (y 2), .int .i64 (y 3), .int .i64 (y 4), .int .i64 (y 5)]), .bool c])) (u18) (u19) (u20) (u21) (u22) (u23) ((.bool c))) rfl ?_ ?_)
      · intro a' w' hC' hK
        subst hK
        subst hC'
        exact ⟨u7, u8, (.tuple #[(.agg #[.int .i64 (x 0), .int .i64 (x 1), .int .i64 (x 2), .int .i64 (x 3), .int .i64 (x 4), .int .i64 (x 5), .int .i64 (y 0), .int .i64 (y 1), .int .i64 (y 2), .int .i64 (y 3), .int .i64 (y 4), .int .i64 (y 5)]), .bool c]), u18, u19, u20, u21, u22, u23, (.bool c), by first | rfl | simp, e0, e1, e2, e3, e4, fun _ => rfl, e6, fun _ => rfl, e10, hB0, hA0⟩
      · exact ⟨(.bool c), fun w' hw' => ⟨rfl, rfl⟩, rfl⟩
    · have h9f : L 9 = false := by cases h : L 9; rfl; exact absurd (hcl 9 8 h (by kernel_rfl)) (by rw [hL]; decide)
      have HB := Lib.hid hB0; clear hB0
      refine wpOp_want rfl rfl ?_
      unfold frB
      go_simp
      exact ⟨.pointer (some ⟨wz.heap.size, 0, none⟩), u8, u17, u18, u19, u20, u21, u22, u23, u24, by first | rfl | simp, e0, e1, e2, e3, e4, e5, e6, e7, e10, HB.out.alloc HB.out.size _, (fun _ => ⟨_, rfl, HB.out.size, At.congr (zero12 wz rfl) (fun k _ => by show (0 : Int) = if L 9 = true then _ else 0; rw [h9f]; rfl)⟩)⟩
    · obtain rfl := e6 (hdep 6 (by kernel_rfl))
      obtain ⟨q, rfl, hq2, hq3⟩ := hA0 (hdep 8 (by kernel_rfl))
      have hq3' : At wz q 12 (fun _ => 0) := hq3.congr (fun k _ => by show (if L 9 = true then _ else 0) = (0 : Int); rw [hL]; rfl)
      have o0 := hq3'.cell 0 (by omega)
      have z0 := hq3'.free 0
      have o1 := hq3'.cell 1 (by omega)
      have z1 := hq3'.free 1
      have o2 := hq3'.cell 2 (by omega)
      have z2 := hq3'.free 2
      have o3 := hq3'.cell 3 (by omega)
      have z3 := hq3'.free 3
      have o4 := hq3'.cell 4 (by omega)
      have z4 := hq3'.free 4
      have o5 := hq3'.cell 5 (by omega)
      have z5 := hq3'.free 5
      have o6 := hq3'.cell 6 (by omega)
      have z6 := hq3'.free 6
      have o7 := hq3'.cell 7 (by omega)
      have z7 := hq3'.free 7
      have o8 := hq3'.cell 8 (by omega)
      have z8 := hq3'.free 8
      have o9 := hq3'.cell 9 (by omega)
      have z9 := hq3'.free 9
      have o10 := hq3'.cell 10 (by omega)
      have z10 := hq3'.free 10
      have o11 := hq3'.cell 11 (by omega)
      have z11 := hq3'.free 11
      have HB := Lib.hid hB0; clear hB0
      refine wpOp_want rfl rfl ?_
      unfold frB
      go_simp
      exact ⟨.pointer (some ⟨q, 0, none⟩), u8, u17, u18, u19, u20, u21, u22, (.agg #[.int .i64 (x 0), .int .i64 (x 1), .int .i64 (x 2), .int .i64 (x 3), .int .i64 (x 4), .int .i64 (x 5), .int .i64 (y 0), .int .i64 (y 1), .int .i64 (y 2), .int .i64 (y 3), .int .i64 (y 4), .int .i64 (y 5)]), u24, by first | rfl | simp, e0, e1, e2, e3, e4, e5, fun _ => rfl, e7, e10, HB.out.trans (setCells_below (p := q) (B := W2.heap.size) hq2 (vals 12 (pr x y)) 0), (fun _ => ⟨q, rfl, hq2, At.congr (hq3'.stored (pr x y)) (fun k _ => rfl)⟩)⟩
    · obtain rfl := e7 (hdep 7 (by kernel_rfl))
      refine wpOp_want rfl rfl (Oper.wp_of_quiet (C := fun w' => w' = wz) (K := fun a' => a' = frB a b x y c w.heap.size q1 (u7) ((.bool c)) (u17) (u18) (u19) (u20) (u21) (u22) (u23) ((.bool c))) rfl ?_ ?_)
      · intro a' w' hC' hK
        subst hK
        subst hC'
        exact ⟨u7, (.bool c), u17, u18, u19, u20, u21, u22, u23, (.bool c), by first | rfl | simp, e0, e1, e2, e3, e4, e5, e6, fun _ => rfl, fun _ => rfl, hB0, hA0⟩
      · exact BigFrame.quiet_assign _ rfl rfl
  intro L az wz hL hcl hI
  obtain ⟨u7, u8, u17, u18, u19, u20, u21, u22, u23, u24, rfl, e0, e1, e2, e3, e4, e5, e6, e7, e10, hB0, hA0⟩ := hI
  obtain rfl := e0 (hL 0 (by decide))
  obtain rfl := e1 (hL 1 (by decide))
  obtain rfl := e2 (hL 2 (by decide))
  obtain rfl := e3 (hL 3 (by decide))
  obtain rfl := e4 (hL 4 (by decide))
  obtain rfl := e5 (hL 5 (by decide))
  obtain rfl := e6 (hL 6 (by decide))
  obtain rfl := e7 (hL 7 (by decide))
  obtain rfl := e10 (hL 10 (by decide))
  obtain ⟨q2, rfl, hlq2, hq3⟩ := hA0 (hL 8 (by decide))
  have hq2 : At wz q2 12 (pr x y) := hq3.congr fun k hk => by rw [if_pos (hL 9 (by decide))]
  clear hq3
  clear hcl hL
  unfold frB
  have hq1 := hq1.up hB0
  have hB := hB.trans (hB0.mono hB.size)
  clear hB0 ha hb
  obtain ⟨c0, c1, c2, c3, c4, c5, c6, c7, c8, c9, c10, c11⟩ := At.twelve hq1
  obtain ⟨d0, d1, d2, d3, d4, d5, d6, d7, d8, d9, d10, d11⟩ := At.twelve hq2
  go_wp2_with fail
  refine (Hq.out _).mono ?_
  rintro e w5 ⟨rfl, hb5⟩
  have hB := nx hB hb5
  cases c
  all_goals
    go_wp2_with fail
    go_ret
    exact ⟨rfl, hB⟩

theorem laidOut : laidOutB Try.prog = true := by kernel_rfl
set_option maxRecDepth 100000 in
/-- What the walk gives, for every argument. -/
theorem contract (H : Type) (enc : TypeId × Value → H) (W : World) (base : Nat) (args : Array Value) (ds gs : List (DataW H)) (before : List MemPlace)
    (hval : ∀ (j : Nat) t v, Try.f4.params[j]? = some t → args[j]? = some v → Value.okWide Try.prog W .any base t v)
    (hW : DataW.Whole enc Try.prog Try.f4.params.toList Rows.fnExactPairOfSpec.vars false W args.toList ds gs before) :
    Calls Try.prog 4 args W fun e W' => ∃ v, e = .returned v ∧ Rows.fnExactPairOfSpec.post enc Try.prog Try.f4 false true false false W args v W' := by
  have hW' := hW
  obtain ⟨p, q, hA0, hV, rfl, hfz, hnd⟩ := hW
  have hA : DataW.TrodAll enc Try.prog W 0 (fun _ => true) true Try.f4.params.toList args.toList ds p := hA0
  rw [Try.params4] at hA hval
  obtain ⟨v0, vs0, d0, ds0, p0, q0, hargs, rfl, rfl, h0, r0⟩ := trodAll_cons hA
  obtain ⟨v1, vs1, d1, ds1, p1, q1, rfl, rfl, rfl, h1, r1⟩ := trodAll_cons r0
  obtain ⟨rfl, rfl, rfl⟩ := trodAll_nil r1
  obtain rfl : args = #[v0, v1] := by cases args; simp_all
  obtain ⟨rfl, rfl⟩ := trodVars_none hV
  obtain ⟨a0, rfl, w0⟩ := OpenD.die_of (hval 0 22 v0 rfl rfl) h0
  have k0 := h0
  have lt0 : ∀ x ∈ p0, x.block < W.heap.size := fun x hx => by have := hW'.lt x (by simp [hx]); simpa using this
  obtain ⟨a1, rfl, w1⟩ := OpenD.die_of (hval 1 22 v1 rfl rfl) h1
  have k1 := h1
  have lt1 : ∀ x ∈ p1, x.block < W.heap.size := fun x hx => by have := hW'.lt x (by simp [hx]); simpa using this
  clear hA0
  simp only [List.append_nil] at hW'
  refine (law_any a0 a1 W).mono fun e W' ⟨he, hg⟩ => ?_
  subst he
  exact ⟨_, rfl, _, _, _, [], (p0 ++ (p1 ++ [])), [], hW', trodAll_cons_mk (shut_bool Try.underlying4 _) trodAll_mk0, trodAll_cons_mk (Below.trod laidOut (by kernel_rfl) (of_decide_eq_true (by kernel_rfl)) k0 hg lt0) (trodAll_cons_mk (Below.trod laidOut (by kernel_rfl) (of_decide_eq_true (by kernel_rfl)) k1 hg lt1) trodAll_mk0), rfl, hg.frame _, fun h => by cases h⟩

theorem own : ownKnob Try.prog.godebug = none := by kernel_rfl

set_option maxRecDepth 100000 in
theorem lifted (os : Os) (started : os.Started) (H : Type) (enc : TypeId × Value → H) :
    ReturnsInHanded {} Try.checked os 4 .any (Rows.fnExactPairOfSpec.pre6 enc Try.prog Try.f4 Rows.fnExactPairOfRow.domain false) (Rows.fnExactPairOfSpec.post enc Try.prog Try.f4 false true false false) := by
  refine returnsInHanded_of_change (C := Try.checked) own started (by kernel_rfl) Try.func4
    (ChangeSpec.witness6 (enc := enc) (C := Try.checked) false ⟨#[], #[.agg #[.int .i64 0, .int .i64 0, .int .i64 0, .int .i64 0, .int .i64 0, .int .i64 0], .agg #[.int .i64 0, .int .i64 0, .int .i64 0, .int .i64 0, .int .i64 0, .int .i64 0]], []⟩ 8 (by kernel_rfl) (by kernel_rfl) (by kernel_rfl) (by kernel_rfl)) ?_
  intro W base args ds gs before hval hW _ _
  exact contract H enc W base args ds gs before hval hW

theorem holds : Rows.FnExactPairOfSaid :=
  OpenClaim.holds_of_wide 4 Try.f4 rfl rfl rfl rfl rfl rfl rfl ⟨rfl, rfl, rfl, rfl, rfl⟩ rfl rfl rfl rfl rfl (by kernel_rfl) Try.func4 (by kernel_rfl)
    (of_decide_eq_true (by kernel_rfl)) (by unfold Func.isWrapper; rw [if_neg (by decide +kernel)]; exact ⟨rfl, rfl⟩)
    (fun os started H enc _ => lifted os started H enc)

end PairOfP
end Go.Proofs.Ytjdijbidpcjjdaa
