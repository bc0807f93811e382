/-
  Six numbers of a list as an array.
-/
import Derived.Test.YtjdijbidpcjjdaaRows
import Derived.Test.YtjdijbidpcjjdaaAnyR
import Derived.Test.YtjdijbidpcjjdaaSortW
import Derived.Test.YtjdijbidpcjjdaaDieW
import Derived.Test.YtjdijbidpcjjdaaOpenD
import Derived.Test.YtjdijbidpcjjdaaArr
import Derived.WalkKit
import Derived.WalkLawsBesides
import Derived.WalkSpells
import Derived.ProofKit
import Derived.OpenShut
import Derived.Deep.RegionWith
import Derived.Deep.WholeRow
import Derived.Deep.QuietTactic
import Derived.BigQuiet
namespace Go.Proofs.Ytjdijbidpcjjdaa
open Go.ChangeShapes Go.WideShapes Go.ChangeAt Go.RowKit
open Go.ChangeMaps (open_string shut_string)

namespace OneA
open Dice Arr OpenD DieW SortW AnyR

def frL (g c : Nat) (h : Nat) (u3 u4 u5 u6 u7 u8 u9 u10 u11 u12 u13 u14 u15 u16 u17 u18 u19 u20 u21 : Value) : Act := ⟨#[.slice (some ⟨g, 0, none⟩) 6 c, undef, .pointer (some ⟨h, 0, none⟩), u3, u4, u5, u6, u7, u8, u9, u10, u11, u12, u13, u14, u15, u16, u17, u18, u19, u20, u21], []⟩
set_option maxHeartbeats 8000000 in
theorem l5Array_any (g c : Nat) (f : Nat → Int) (w : World) (hG : At w g 6 f) :
    Calls Try.prog 50 #[.slice (some ⟨g, 0, none⟩) 6 c] w fun e w' => e = .returned (dv f) ∧ Below w.heap.size w w' := by
  have hR := (At.new6 w (fun _ => 0) 22 (b := w.heap.size) rfl)
  have hA := hG.past (sixO (fun _ => 0) 22)
  have hB := na (n0 w) (sixO (fun _ => 0) 22)
  have hgl := hG.lt
  clear hG
  go_enter Try.func50, Try.ntmps50
  go_wp2_with fail
  obtain ⟨W, hW⟩ : ∃ W, W = w.alloc (sixO (fun _ => 0) 22) := ⟨_, rfl⟩
  rw [← hW] at hR hA hB ⊢
  clear hW
  refine wp_region_inc (I := fun L az w' => ∃ u3 u4 u5 u6 u7 u8 u9 u10 u11 u12 u13 u14 u15 u16 u17 u18 u19 u20 u21 : Value, az = frL g c w.heap.size u3 u4 u5 u6 u7 u8 u9 u10 u11 u12 u13 u14 u15 u16 u17 u18 u19 u20 u21 ∧ (L 0 = true → u3 = (.slice (some ⟨g, 0, none⟩) 6 c)) ∧ (L 1 = true → u4 = (.pointer (some ⟨g, 0, none⟩))) ∧ (L 2 = true → u5 = (.int .i64 (f 0))) ∧ (L 3 = true → u6 = (.slice (some ⟨g, 0, none⟩) 6 c)) ∧ (L 4 = true → u7 = (.pointer (some ⟨g, 1, none⟩))) ∧ (L 5 = true → u8 = (.int .i64 (f 1))) ∧ (L 6 = true → u9 = (.slice (some ⟨g, 0, none⟩) 6 c)) ∧ (L 7 = true → u10 = (.pointer (some ⟨g, 2, none⟩))) ∧ (L 8 = true → u11 = (.int .i64 (f 2))) ∧ (L 9 = true → u12 = (.slice (some ⟨g, 0, none⟩) 6 c)) ∧ (L 10 = true → u13 = (.pointer (some ⟨g, 3, none⟩))) ∧ (L 11 = true → u14 = (.int .i64 (f 3))) ∧ (L 12 = true → u15 = (.slice (some ⟨g, 0, none⟩) 6 c)) ∧ (L 13 = true → u16 = (.pointer (some ⟨g, 4, none⟩))) ∧ (L 14 = true → u17 = (.int .i64 (f 4))) ∧ (L 15 = true → u18 = (.slice (some ⟨g, 0, none⟩) 6 c)) ∧ (L 16 = true → u19 = (.pointer (some ⟨g, 5, none⟩))) ∧ (L 17 = true → u20 = (.int .i64 (f 5))) ∧ (L 18 = true → u21 = (.agg #[.int .i64 (f 0), .int .i64 (f 1), .int .i64 (f 2), .int .i64 (f 3), .int .i64 (f 4), .int .i64 (f 5)])) ∧ Below w.heap.size W w' ∧ At w' g 6 f ∧ At w' w.heap.size 6 (fun k => if L 19 = true then f k else (fun _ => 0) k)) (by kernel_rfl) (by kernel_rfl) ?_ ?_ ?_
  · exact ⟨_, _, _, _, _, _, _, _, _, _, _, _, _, _, _, _, _, _, _, rfl, (fun h => by cases h), (fun h => by cases h), (fun h => by cases h), (fun h => by cases h), (fun h => by cases h), (fun h => by cases h), (fun h => by cases h), (fun h => by cases h), (fun h => by cases h), (fun h => by cases h), (fun h => by cases h), (fun h => by cases h), (fun h => by cases h), (fun h => by cases h), (fun h => by cases h), (fun h => by cases h), (fun h => by cases h), (fun h => by cases h), (fun h => by cases h), ((Below.refl _ W).drew), (hA).drew, At.congr ((hR).drew) (fun k _ => rfl)⟩
  · intro L az wz i hi hL hdep hcl hI
    obtain ⟨u3, u4, u5, u6, u7, u8, u9, u10, u11, u12, u13, u14, u15, u16, u17, u18, u19, u20, u21, rfl, e0, e1, e2, e3, e4, e5, e6, e7, e8, e9, e10, e11, e12, e13, e14, e15, e16, e17, e18, hB0, hK0, hT0⟩ := hI
    have hi' : i < 20 := hi
    clear hi
    obtain rfl | rfl | rfl | rfl | rfl | rfl | rfl | rfl | rfl | rfl | rfl | rfl | rfl | rfl | rfl | rfl | rfl | rfl | rfl | rfl : i = 0 ∨ i = 1 ∨ i = 2 ∨ i = 3 ∨ i = 4 ∨ i = 5 ∨ i = 6 ∨ i = 7 ∨ i = 8 ∨ i = 9 ∨ i = 10 ∨ i = 11 ∨ i = 12 ∨ i = 13 ∨ i = 14 ∨ i = 15 ∨ i = 16 ∨ i = 17 ∨ i = 18 ∨ i = 19 := by omega
    · refine wpOp_want rfl rfl (Oper.wp_of_quiet (C := fun w' => w' = wz) (K := fun a' => a' = frL g c w.heap.size ((.slice (some ⟨g, 0, none⟩) 6 c)) (u4) (u5) (u6) (u7) (u8) (u9) (u10) (u11) (u12) (u13) (u14) (u15) (u16) (u17) (u18) (u19) (u20) (u21)) rfl ?_ ?_)
      · intro a' w' hC' hK
        subst hK
        subst hC'
        exact ⟨(.slice (some ⟨g, 0, none⟩) 6 c), u4, u5, u6, u7, u8, u9, u10, u11, u12, u13, u14, u15, u16, u17, u18, u19, u20, u21, by first | rfl | simp, fun _ => rfl, e1, e2, e3, e4, e5, e6, e7, e8, e9, e10, e11, e12, e13, e14, e15, e16, e17, e18, hB0, hK0, hT0⟩
      · exact BigFrame.quiet_move _ rfl rfl
    · obtain rfl := e0 (hdep 0 (by kernel_rfl))
      have HB := Lib.hid hB0; clear hB0
      have HK0 := Lib.hid hK0; clear hK0
      refine wpOp_want rfl rfl ?_
      unfold frL
      go_simp
      exact ⟨(.slice (some ⟨g, 0, none⟩) 6 c), (.pointer (some ⟨g, 0, none⟩)), u5, u6, u7, u8, u9, u10, u11, u12, u13, u14, u15, u16, u17, u18, u19, u20, u21, by first | rfl | simp, fun _ => rfl, fun _ => rfl, e2, e3, e4, e5, e6, e7, e8, e9, e10, e11, e12, e13, e14, e15, e16, e17, e18, HB.out, HK0.out, hT0⟩
    · obtain rfl := e1 (hdep 1 (by kernel_rfl))
      have ck := hK0.cell 0 (by omega)
      have HB := Lib.hid hB0; clear hB0
      have HK0 := Lib.hid hK0; clear hK0
      refine wpOp_want rfl rfl ?_
      unfold frL
      go_simp
      exact ⟨u3, (.pointer (some ⟨g, 0, none⟩)), (.int .i64 (f 0)), u6, u7, u8, u9, u10, u11, u12, u13, u14, u15, u16, u17, u18, u19, u20, u21, by first | rfl | simp, e0, fun _ => rfl, fun _ => rfl, e3, e4, e5, e6, e7, e8, e9, e10, e11, e12, e13, e14, e15, e16, e17, e18, HB.out, HK0.out, hT0⟩
    · refine wpOp_want rfl rfl (Oper.wp_of_quiet (C := fun w' => w' = wz) (K := fun a' => a' = frL g c w.heap.size (u3) (u4) (u5) ((.slice (some ⟨g, 0, none⟩) 6 c)) (u7) (u8) (u9) (u10) (u11) (u12) (u13) (u14) (u15) (u16) (u17) (u18) (u19) (u20) (u21)) rfl ?_ ?_)
      · intro a' w' hC' hK
        subst hK
        subst hC'
        exact ⟨u3, u4, u5, (.slice (some ⟨g, 0, none⟩) 6 c), u7, u8, u9, u10, u11, u12, u13, u14, u15, u16, u17, u18, u19, u20, u21, by first | rfl | simp, e0, e1, e2, fun _ => rfl, e4, e5, e6, e7, e8, e9, e10, e11, e12, e13, e14, e15, e16, e17, e18, hB0, hK0, hT0⟩
      · exact BigFrame.quiet_move _ rfl rfl
    · obtain rfl := e3 (hdep 3 (by kernel_rfl))
      have HB := Lib.hid hB0; clear hB0
      have HK0 := Lib.hid hK0; clear hK0
      refine wpOp_want rfl rfl ?_
      unfold frL
      go_simp
      exact ⟨u3, u4, u5, (.slice (some ⟨g, 0, none⟩) 6 c), (.pointer (some ⟨g, 1, none⟩)), u8, u9, u10, u11, u12, u13, u14, u15, u16, u17, u18, u19, u20, u21, by first | rfl | simp, e0, e1, e2, fun _ => rfl, fun _ => rfl, e5, e6, e7, e8, e9, e10, e11, e12, e13, e14, e15, e16, e17, e18, HB.out, HK0.out, hT0⟩
    · obtain rfl := e4 (hdep 4 (by kernel_rfl))
      have ck := hK0.cell 1 (by omega)
      have HB := Lib.hid hB0; clear hB0
      have HK0 := Lib.hid hK0; clear hK0
      refine wpOp_want rfl rfl ?_
      unfold frL
      go_simp
      exact ⟨u3, u4, u5, u6, (.pointer (some ⟨g, 1, none⟩)), (.int .i64 (f 1)), u9, u10, u11, u12, u13, u14, u15, u16, u17, u18, u19, u20, u21, by first | rfl | simp, e0, e1, e2, e3, fun _ => rfl, fun _ => rfl, e6, e7, e8, e9, e10, e11, e12, e13, e14, e15, e16, e17, e18, HB.out, HK0.out, hT0⟩
    · refine wpOp_want rfl rfl (Oper.wp_of_quiet (C := fun w' => w' = wz) (K := fun a' => a' = frL g c w.heap.size (u3) (u4) (u5) (u6) (u7) (u8) ((.slice (some ⟨g, 0, none⟩) 6 c)) (u10) (u11) (u12) (u13) (u14) (u15) (u16) (u17) (u18) (u19) (u20) (u21)) rfl ?_ ?_)
      · intro a' w' hC' hK
        subst hK
        subst hC'
        exact ⟨u3, u4, u5, u6, u7, u8, (.slice (some ⟨g, 0, none⟩) 6 c), u10, u11, u12, u13, u14, u15, u16, u17, u18, u19, u20, u21, by first | rfl | simp, e0, e1, e2, e3, e4, e5, fun _ => rfl, e7, e8, e9, e10, e11, e12, e13, e14, e15, e16, e17, e18, hB0, hK0, hT0⟩
      · exact BigFrame.quiet_move _ rfl rfl
    · obtain rfl := e6 (hdep 6 (by kernel_rfl))
      have HB := Lib.hid hB0; clear hB0
      have HK0 := Lib.hid hK0; clear hK0
      refine wpOp_want rfl rfl ?_
      unfold frL
      go_simp
      exact ⟨u3, u4, u5, u6, u7, u8, (.slice (some ⟨g, 0, none⟩) 6 c), (.pointer (some ⟨g, 2, none⟩)), u11, u12, u13, u14, u15, u16, u17, u18, u19, u20, u21, by first | rfl | simp, e0, e1, e2, e3, e4, e5, fun _ => rfl, fun _ => rfl, e8, e9, e10, e11, e12, e13, e14, e15, e16, e17, e18, HB.out, HK0.out, hT0⟩
    · obtain rfl := e7 (hdep 7 (by kernel_rfl))
      have ck := hK0.cell 2 (by omega)
      have HB := Lib.hid hB0; clear hB0
      have HK0 := Lib.hid hK0; clear hK0
      refine wpOp_want rfl rfl ?_
      unfold frL
      go_simp
      exact ⟨u3, u4, u5, u6, u7, u8, u9, (.pointer (some ⟨g, 2, none⟩)), (.int .i64 (f 2)), u12, u13, u14, u15, u16, u17, u18, u19, u20, u21, by first | rfl | simp, e0, e1, e2, e3, e4, e5, e6, fun _ => rfl, fun _ => rfl, e9, e10, e11, e12, e13, e14, e15, e16, e17, e18, HB.out, HK0.out, hT0⟩
    · refine wpOp_want rfl rfl (Oper.wp_of_quiet (C := fun w' => w' = wz) (K := fun a' => a' = frL g c w.heap.size (u3) (u4) (u5) (u6) (u7) (u8) (u9) (u10) (u11) ((.slice (some ⟨g, 0, none⟩) 6 c)) (u13) (u14) (u15) (u16) (u17) (u18) (u19) (u20) (u21)) rfl ?_ ?_)
      · intro a' w' hC' hK
        subst hK
        subst hC'
        exact ⟨u3, u4, u5, u6, u7, u8, u9, u10, u11, (.slice (some ⟨g, 0, none⟩) 6 c), u13, u14, u15, u16, u17, u18, u19, u20, u21, by first | rfl | simp, e0, e1, e2, e3, e4, e5, e6, e7, e8, fun _ => rfl, e10, e11, e12, e13, e14, e15, e16, e17, e18, hB0, hK0, hT0⟩
      · exact BigFrame.quiet_move _ rfl rfl
    · obtain rfl := e9 (hdep 9 (by kernel_rfl))
      have HB := Lib.hid hB0; clear hB0
      have HK0 := Lib.hid hK0; clear hK0
      refine wpOp_want rfl rfl ?_
      unfold frL
      go_simp
      exact ⟨u3, u4, u5, u6, u7, u8, u9, u10, u11, (.slice (some ⟨g, 0, none⟩) 6 c), (.pointer (some ⟨g, 3, none⟩)), u14, u15, u16, u17, u18, u19, u20, u21, by first | rfl | simp, e0, e1, e2, e3, e4, e5, e6, e7, e8, fun _ => rfl, fun _ => rfl, e11, e12, e13, e14, e15, e16, e17, e18, HB.out, HK0.out, hT0⟩
    · obtain rfl := e10 (hdep 10 (by kernel_rfl))
      have ck := hK0.cell 3 (by omega)
      have HB := Lib.hid hB0; clear hB0
      have HK0 := Lib.hid hK0; clear hK0
      refine wpOp_want rfl rfl ?_
      unfold frL
      go_simp
      exact ⟨u3, u4, u5, u6, u7, u8, u9, u10, u11, u12, (.pointer (some ⟨g, 3, none⟩)), (.int .i64 (f 3)), u15, u16, u17, u18, u19, u20, u21, by first | rfl | simp, e0, e1, e2, e3, e4, e5, e6, e7, e8, e9, fun _ => rfl, fun _ => rfl, e12, e13, e14, e15, e16, e17, e18, HB.out, HK0.out, hT0⟩
    · refine wpOp_want rfl rfl (Oper.wp_of_quiet (C := fun w' => w' = wz) (K := fun a' => a' = frL g c w.heap.size (u3) (u4) (u5) (u6) (u7) (u8) (u9) (u10) (u11) (u12) (u13) (u14) ((.slice (some ⟨g, 0, none⟩) 6 c)) (u16) (u17) (u18) (u19) (u20) (u21)) rfl ?_ ?_)
      · intro a' w' hC' hK
        subst hK
        subst hC'
        exact ⟨u3, u4, u5, u6, u7, u8, u9, u10, u11, u12, u13, u14, (.slice (some ⟨g, 0, none⟩) 6 c), u16, u17, u18, u19, u20, u21, by first | rfl | simp, e0, e1, e2, e3, e4, e5, e6, e7, e8, e9, e10, e11, fun _ => rfl, e13, e14, e15, e16, e17, e18, hB0, hK0, hT0⟩
      · exact BigFrame.quiet_move _ rfl rfl
    · obtain rfl := e12 (hdep 12 (by kernel_rfl))
      have HB := Lib.hid hB0; clear hB0
      have HK0 := Lib.hid hK0; clear hK0
      refine wpOp_want rfl rfl ?_
      unfold frL
      go_simp
      exact ⟨u3, u4, u5, u6, u7, u8, u9, u10, u11, u12, u13, u14, (.slice (some ⟨g, 0, none⟩) 6 c), (.pointer (some ⟨g, 4, none⟩)), u17, u18, u19, u20, u21, by first | rfl | simp, e0, e1, e2, e3, e4, e5, e6, e7, e8, e9, e10, e11, fun _ => rfl, fun _ => rfl, e14, e15, e16, e17, e18, HB.out, HK0.out, hT0⟩
    · obtain rfl := e13 (hdep 13 (by kernel_rfl))
      have ck := hK0.cell 4 (by omega)
      have HB := Lib.hid hB0; clear hB0
      have HK0 := Lib.hid hK0; clear hK0
      refine wpOp_want rfl rfl ?_
      unfold frL
      go_simp
      exact ⟨u3, u4, u5, u6, u7, u8, u9, u10, u11, u12, u13, u14, u15, (.pointer (some ⟨g, 4, none⟩)), (.int .i64 (f 4)), u18, u19, u20, u21, by first | rfl | simp, e0, e1, e2, e3, e4, e5, e6, e7, e8, e9, e10, e11, e12, fun _ => rfl, fun _ => rfl, e15, e16, e17, e18, HB.out, HK0.out, hT0⟩
    · refine wpOp_want rfl rfl (Oper.wp_of_quiet (C := fun w' => w' = wz) (K := fun a' => a' = frL g c w.heap.size (u3) (u4) (u5) (u6) (u7) (u8) (u9) (u10) (u11) (u12) (u13) (u14) (u15) (u16) (u17) ((.slice (some ⟨g, 0, none⟩) 6 c)) (u19) (u20) (u21)) rfl ?_ ?_)
      · intro a' w' hC' hK
        subst hK
        subst hC'
        exact ⟨u3, u4, u5, u6, u7, u8, u9, u10, u11, u12, u13, u14, u15, u16, u17, (.slice (some ⟨g, 0, none⟩) 6 c), u19, u20, u21, by first | rfl | simp, e0, e1, e2, e3, e4, e5, e6, e7, e8, e9, e10, e11, e12, e13, e14, fun _ => rfl, e16, e17, e18, hB0, hK0, hT0⟩
      · exact BigFrame.quiet_move _ rfl rfl
    · obtain rfl := e15 (hdep 15 (by kernel_rfl))
      have HB := Lib.hid hB0; clear hB0
      have HK0 := Lib.hid hK0; clear hK0
      refine wpOp_want rfl rfl ?_
      unfold frL
      go_simp
      exact ⟨u3, u4, u5, u6, u7, u8, u9, u10, u11, u12, u13, u14, u15, u16, u17, (.slice (some ⟨g, 0, none⟩) 6 c), (.pointer (some ⟨g, 5, none⟩)), u20, u21, by first | rfl | simp, e0, e1, e2, e3, e4, e5, e6, e7, e8, e9, e10, e11, e12, e13, e14, fun _ => rfl, fun _ => rfl, e17, e18, HB.out, HK0.out, hT0⟩
    · obtain rfl := e16 (hdep 16 (by kernel_rfl))
      have ck := hK0.cell 5 (by omega)
      have HB := Lib.hid hB0; clear hB0
      have HK0 := Lib.hid hK0; clear hK0
      refine wpOp_want rfl rfl ?_
      unfold frL
      go_simp
      exact ⟨u3, u4, u5, u6, u7, u8, u9, u10, u11, u12, u13, u14, u15, u16, u17, u18, (.pointer (some ⟨g, 5, none⟩)), (.int .i64 (f 5)), u21, by first | rfl | simp, e0, e1, e2, e3, e4, e5, e6, e7, e8, e9, e10, e11, e12, e13, e14, e15, fun _ => rfl, fun _ => rfl, e18, HB.out, HK0.out, hT0⟩
    · obtain rfl := e2 (hdep 2 (by kernel_rfl))
      obtain rfl := e5 (hdep 5 (by kernel_rfl))
      obtain rfl := e8 (hdep 8 (by kernel_rfl))
      obtain rfl := e11 (hdep 11 (by kernel_rfl))
      obtain rfl := e14 (hdep 14 (by kernel_rfl))
      obtain rfl := e17 (hdep 17 (by kernel_rfl))
      have HB := Lib.hid hB0; clear hB0
      have HK0 := Lib.hid hK0; clear hK0
      refine wpOp_want rfl rfl ?_
      unfold frL
      go_simp
      exact ⟨u3, u4, (.int .i64 (f 0)), u6, u7, (.int .i64 (f 1)), u9, u10, (.int .i64 (f 2)), u12, u13, (.int .i64 (f 3)), u15, u16, (.int .i64 (f 4)), u18, u19, (.int .i64 (f 5)), (.agg #[.int .i64 (f 0), .int .i64 (f 1), .int .i64 (f 2), .int .i64 (f 3), .int .i64 (f 4), .int .i64 (f 5)]), by first | rfl | simp, e0, e1, fun _ => rfl, e3, e4, fun _ => rfl, e6, e7, fun _ => rfl, e9, e10, fun _ => rfl, e12, e13, fun _ => rfl, e15, e16, fun _ => rfl, fun _ => rfl, HB.out, HK0.out, hT0⟩
    · obtain rfl := e18 (hdep 18 (by kernel_rfl))
      have hq3' : At wz w.heap.size 6 (fun _ => 0) := hT0.congr (fun k _ => by show (if L 19 = true then _ else _) = _; rw [hL]; rfl)
      have o0 := hq3'.cell 0 (by omega)
      have z0 := hq3'.free 0
      have o1 := hq3'.cell 1 (by omega)
      have z1 := hq3'.free 1
      have o2 := hq3'.cell 2 (by omega)
      have z2 := hq3'.free 2
      have o3 := hq3'.cell 3 (by omega)
      have z3 := hq3'.free 3
      have o4 := hq3'.cell 4 (by omega)
      have z4 := hq3'.free 4
      have o5 := hq3'.cell 5 (by omega)
      have z5 := hq3'.free 5
      have HB := Lib.hid hB0; clear hB0
      have HK0 := Lib.hid hK0; clear hK0
      refine wpOp_want rfl rfl ?_
      unfold frL
      go_simp
      exact ⟨u3, u4, u5, u6, u7, u8, u9, u10, u11, u12, u13, u14, u15, u16, u17, u18, u19, u20, (.agg #[.int .i64 (f 0), .int .i64 (f 1), .int .i64 (f 2), .int .i64 (f 3), .int .i64 (f 4), .int .i64 (f 5)]), by first | rfl | simp, e0, e1, e2, e3, e4, e5, e6, e7, e8, e9, e10, e11, e12, e13, e14, e15, e16, e17, fun _ => rfl, HB.out.trans (setCells_below (p := w.heap.size) (B := w.heap.size) (Nat.le_refl _) (vals 6 f) 0), HK0.out.keep (p := w.heap.size) (by omega) (vals 6 f) 0, At.congr (hq3'.stored f) (fun k _ => rfl)⟩
  intro L az wz hL hcl hI
  obtain ⟨u3, u4, u5, u6, u7, u8, u9, u10, u11, u12, u13, u14, u15, u16, u17, u18, u19, u20, u21, rfl, e0, e1, e2, e3, e4, e5, e6, e7, e8, e9, e10, e11, e12, e13, e14, e15, e16, e17, e18, hB0, hK0, hT0⟩ := hI
  obtain rfl := e0 (hL 0 (by decide))
  obtain rfl := e1 (hL 1 (by decide))
  obtain rfl := e2 (hL 2 (by decide))
  obtain rfl := e3 (hL 3 (by decide))
  obtain rfl := e4 (hL 4 (by decide))
  obtain rfl := e5 (hL 5 (by decide))
  obtain rfl := e6 (hL 6 (by decide))
  obtain rfl := e7 (hL 7 (by decide))
  obtain rfl := e8 (hL 8 (by decide))
  obtain rfl := e9 (hL 9 (by decide))
  obtain rfl := e10 (hL 10 (by decide))
  obtain rfl := e11 (hL 11 (by decide))
  obtain rfl := e12 (hL 12 (by decide))
  obtain rfl := e13 (hL 13 (by decide))
  obtain rfl := e14 (hL 14 (by decide))
  obtain rfl := e15 (hL 15 (by decide))
  obtain rfl := e16 (hL 16 (by decide))
  obtain rfl := e17 (hL 17 (by decide))
  obtain rfl := e18 (hL 18 (by decide))
  have hT : At wz w.heap.size 6 f := hT0.congr fun k hk => by rw [if_pos (hL 19 (by decide))]
  clear hT0
  clear hcl hL
  unfold frL
  have hB := hB.trans hB0
  go_wp2_with fail
  exact ret_cell (b := w.heap.size) (n := 6) (f := f) Try.results50 rfl Try.underlying22 (by kernel_rfl) hT rfl ⟨rfl, hB⟩

end OneA
end Go.Proofs.Ytjdijbidpcjjdaa
