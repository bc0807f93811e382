/-
  PhraseOverlap and PhraseWait, both sides.
-/
import Derived.Test.YtdodokeebmdceaaRows
import Derived.Test.YtdodokeebmdceaaArr
import Derived.Test.YtdodokeebmdceaaAnyR
import Derived.Test.YtdodokeebmdceaaDieW
import Derived.Test.YtdodokeebmdceaaSortW
import Derived.Test.YtdodokeebmdceaaFracW
import Derived.Test.YtdodokeebmdceaaFracL
import Derived.Test.YtdodokeebmdceaaCutW
import Derived.Test.YtdodokeebmdceaaAll6
import Derived.Test.YtdodokeebmdceaaAllL
import Derived.Test.YtdodokeebmdceaaOwnL
import Derived.Test.YtdodokeebmdceaaFracM
import Derived.Test.YtdodokeebmdceaaWgtM
import Derived.Test.YtdodokeebmdceaaWgtW
import Derived.Test.YtdodokeebmdceaaShelfSl
import Derived.Test.YtdodokeebmdceaaOpenI
import Derived.Test.YtdodokeebmdceaaPhrM
import Derived.Test.YtdodokeebmdceaaPhrW
import Derived.Test.YtdodokeebmdceaaPhrV
import Derived.Test.YtdodokeebmdceaaOvI
import Derived.Test.YtdodokeebmdceaaGoalW
import Derived.Test.YtdodokeebmdceaaFracB2
import Derived.Test.YtdodokeebmdceaaOvS
import Derived.Test.YtdodokeebmdceaaOpenD
import Derived.WalkKit
import Derived.WalkLawsBesides
import Derived.WalkSpells
import Derived.ProofKit
import Derived.OpenShut
import Derived.Deep.RegionWith
import Derived.Deep.QuietTactic
import Derived.BigQuiet
namespace Go.Proofs.Ytdodokeebmdceaa
open Go.ChangeShapes Go.WideShapes Go.ChangeAt Go.RowKit
open Go.ChangeMaps (open_string shut_string)

namespace POv
open Dice Arr DieW SortW FracW CutW All6 AllL OwnL FracM WgtM WgtW OpenG PhrM PhrW AnyR PhrV OvI GoalW OvS

/-- What PhraseOverlap answers. -/
def okO (d : Nat → Int) (n : Nat) (fa : Nat → Int) (m : Nat) (fb : Nat → Int) : Bool := okPh d n fa && okPh d m fb
def ox (d : Nat → Int) (n : Nat) (fa : Nat → Int) (m : Nat) (fb : Nat → Int) : Int := if okO d n fa m fb then (num (nn (wv d fb) (mt fa fb n) m (min n m)) (pr (wv d fb) m) : Nat) else 0
def oy (d : Nat → Int) (n : Nat) (fa : Nat → Int) (m : Nat) (fb : Nat → Int) : Int := if okO d n fa m fb then (den (nn (wv d fb) (mt fa fb n) m (min n m)) (pr (wv d fb) m) : Nat) else 0
theorem o_no {d : Nat → Int} {n m : Nat} {fa fb : Nat → Int} (h : okO d n fa m fb = false) : ox d n fa m fb = 0 ∧ oy d n fa m fb = 0 := by simp [ox, oy, h]
theorem o_yes {d : Nat → Int} {n m : Nat} {fa fb : Nat → Int} (h : okO d n fa m fb = true) : ox d n fa m fb = (num (nn (wv d fb) (mt fa fb n) m (min n m)) (pr (wv d fb) m) : Nat) ∧ oy d n fa m fb = (den (nn (wv d fb) (mt fa fb n) m (min n m)) (pr (wv d fb) m) : Nat) := by simp [ox, oy, h]
def frO (d : Nat → Int) (ga n gb m h : Nat) (u7 u19 u20 u21 u22 u23 u24 u25 u26 : Value) : Act := ⟨#[(.agg #[.int .i64 (d 0), .int .i64 (d 1), .int .i64 (d 2), .int .i64 (d 3), .int .i64 (d 4), .int .i64 (d 5)]), .slice (some ⟨ga, 0, none⟩) n n, .slice (some ⟨gb, 0, none⟩) m m, .pointer (some ⟨h, 0, none⟩), undef, undef, .pointer (some ⟨h + 1, 0, none⟩), u7, (.agg #[.int .i64 (d 0), .int .i64 (d 1), .int .i64 (d 2), .int .i64 (d 3), .int .i64 (d 4), .int .i64 (d 5)]), .slice (some ⟨ga, 0, none⟩) n n, .bool true, .bool false, .bool false, (.agg #[.int .i64 (d 0), .int .i64 (d 1), .int .i64 (d 2), .int .i64 (d 3), .int .i64 (d 4), .int .i64 (d 5)]), .slice (some ⟨gb, 0, none⟩) m m, .bool true, .bool false, .bool false, undef, u19, u20, u21, u22, u23, u24, u25, u26], []⟩

set_option maxRecDepth 100000 in
set_option maxHeartbeats 4000000 in
theorem implPO_any (d : Nat → Int) (ga n gb m : Nat) (fa fb : Nat → Int) (w : World) (hA : At w ga n fa) (hC : At w gb m fb) :
    Calls Try.prog 35 #[dv d, .slice (some ⟨ga, 0, none⟩) n n, .slice (some ⟨gb, 0, none⟩) m m] w fun e w' => e = .returned (.tuple #[v2 (ox d n fa m fb) (oy d n fa m fb), .bool (okO d n fa m fb)]) ∧ Below w.heap.size w w' := by
  have hc := fun (A : Option Addr) (k c : Nat) (f : Nat → Int) (w : World) (h : RowI w A k f) => implPh_any d A k c f w h
  unfold dv at hc
  have Hc := Lib.hid hc; clear hc
  have hpA := fun w (h : At w ga n fa) => Hc.out (some ⟨ga, 0, none⟩) n n fa w (row_at h)
  have hpC := fun w (h : At w gb m fb) => Hc.out (some ⟨gb, 0, none⟩) m m fb w (row_at h)
  clear Hc
  cases h1 : okPh d n fa
  · have hok : okO d n fa m fb = false := by simp [okO, h1]
    rw [h1] at hpA
    have HpA := Lib.hid hpA; clear hpA hpC h1
    rw [hok, (o_no hok).1, (o_no hok).2]
    clear hok
    unfold dv
    have hB0 := na (na (n0 w) (sixO d 22)) (.cells #[.int .i64 0, .int .i64 0] 29)
    have hD0 := (At.new6 w d 22 rfl).past (.cells #[.int .i64 0, .int .i64 0] 29)
    have hR0 := At.new2 (w.alloc (sixO d 22)) 29
    rw [size_alloc] at hR0
    obtain ⟨e0, e1, e2, e3, e4, e5⟩ := hD0.six
    have hA0 := (hA.past (sixO d 22)).past (.cells #[.int .i64 0, .int .i64 0] 29)
    have hC0 := (hC.past (sixO d 22)).past (.cells #[.int .i64 0, .int .i64 0] 29)
    have hgal := hA.lt
    have hgbl := hC.lt
    clear hA hC
    go_enter Try.func35, Try.ntmps35
    go_wp2_with fail
    refine (HpA.out _ hA0).mono ?_
    rintro e w1 ⟨rfl, hb1⟩
    have hR1 := hR0.up hb1
    have hD1 := hD0.up hb1
    have hA1 := hA0.up hb1
    have hC1 := hC0.up hb1
    have hB1 := nx hB0 hb1
    clear e0 e1 e2 e3 e4 e5
    have hRX := hR1
    have c0 := hRX.cell 0 (by omega)
    have c1 := hRX.cell 1 (by omega)
    have z0 := hRX.free 0
    have z1 := hRX.free 1
    go_wp2_with fail
    refine ret_cell_tmp (b := w.heap.size + 1) (n := 2) (f := fr 0 0) Try.results35 rfl rfl Try.underlying29 (by kernel_rfl) (fin2' hRX _ _) rfl ⟨rfl, ?_⟩
    exact (hB1.setCell (p := ⟨w.heap.size + 1, 0, none⟩) (Nat.le_succ _) _).setCell (p := ⟨w.heap.size + 1, 1, none⟩) (Nat.le_succ _) _
  rw [h1] at hpA
  have HpA := Lib.hid hpA; clear hpA
  cases h2 : okPh d m fb
  · have hok : okO d n fa m fb = false := by simp [okO, h2]
    rw [h2] at hpC
    have HpC := Lib.hid hpC; clear hpC h2 h1
    rw [hok, (o_no hok).1, (o_no hok).2]
    clear hok
    unfold dv
    have hB0 := na (na (n0 w) (sixO d 22)) (.cells #[.int .i64 0, .int .i64 0] 29)
    have hD0 := (At.new6 w d 22 rfl).past (.cells #[.int .i64 0, .int .i64 0] 29)
    have hR0 := At.new2 (w.alloc (sixO d 22)) 29
    rw [size_alloc] at hR0
    obtain ⟨e0, e1, e2, e3, e4, e5⟩ := hD0.six
    have hA0 := (hA.past (sixO d 22)).past (.cells #[.int .i64 0, .int .i64 0] 29)
    have hC0 := (hC.past (sixO d 22)).past (.cells #[.int .i64 0, .int .i64 0] 29)
    have hgal := hA.lt
    have hgbl := hC.lt
    clear hA hC
    go_enter Try.func35, Try.ntmps35
    go_wp2_with fail
    refine (HpA.out _ hA0).mono ?_
    rintro e w1 ⟨rfl, hb1⟩
    have hR1 := hR0.up hb1
    have hD1 := hD0.up hb1
    have hA1 := hA0.up hb1
    have hC1 := hC0.up hb1
    have hB1 := nx hB0 hb1
    clear e0 e1 e2 e3 e4 e5
    obtain ⟨e0, e1, e2, e3, e4, e5⟩ := hD1.six
    go_wp2_with fail
    refine (HpC.out _ hC1).mono ?_
    rintro e w2 ⟨rfl, hb2⟩
    have hR2 := hR1.up hb2
    have hD2 := hD1.up hb2
    have hA2 := hA1.up hb2
    have hC2 := hC1.up hb2
    have hB2 := nx hB1 hb2
    clear e0 e1 e2 e3 e4 e5
    have hRX := hR2
    have c0 := hRX.cell 0 (by omega)
    have c1 := hRX.cell 1 (by omega)
    have z0 := hRX.free 0
    have z1 := hRX.free 1
    go_wp2_with fail
    refine ret_cell_tmp (b := w.heap.size + 1) (n := 2) (f := fr 0 0) Try.results35 rfl rfl Try.underlying29 (by kernel_rfl) (fin2' hRX _ _) rfl ⟨rfl, ?_⟩
    exact (hB2.setCell (p := ⟨w.heap.size + 1, 0, none⟩) (Nat.le_succ _) _).setCell (p := ⟨w.heap.size + 1, 1, none⟩) (Nat.le_succ _) _
  have hok : okO d n fa m fb = true := by simp [okO, h1, h2]
  rw [h2] at hpC
  have HpC := Lib.hid hpC; clear hpC
  rw [hok, (o_yes hok).1, (o_yes hok).2]
  clear hok
  obtain ⟨_, hn1, hn6, hvA⟩ := of_ph h1
  obtain ⟨_, hm1, hm6, hvC⟩ := of_ph h2
  clear h1 h2
  have hov := fun w (h1 : At w ga n fa) (h2 : At w gb m fb) => implOv_any d ga n gb m fa fb w h1 h2 ⟨hn1, hn6⟩ ⟨hm1, hm6⟩
  have hwy := fun w (h2 : At w gb m fb) => ways_any d (some ⟨gb, 0, none⟩) m m fb w (row_at h2) hm6
  have hnl := nn_le6 (mt := mt fa fb n) (wv_le d fb) hm6 (min n m) (by omega)
  have hpl := Nat.le_trans (pr_le (wv_le d fb) m) (six_le hm6)
  have hpp := pr_pos (v := wv d fb) (k := m) hvC
  have hcut : ∀ w, Calls Try.prog 56 #[.int .i64 (nn (wv d fb) (mt fa fb n) m (min n m) : Nat), .int .i64 (pr (wv d fb) m : Nat)] w fun e w' => e = .returned (v2 (num (nn (wv d fb) (mt fa fb n) m (min n m)) (pr (wv d fb) m) : Nat) (den (nn (wv d fb) (mt fa fb n) m (min n m)) (pr (wv d fb) m) : Nat)) ∧ Below w.heap.size w w' := fun w => FracL.fractionL _ _ w (Nat.le_trans hnl (by decide)) (Nat.le_trans hpl (by decide)) hpp
  have hwy' : ∀ w, At w gb m fb → Calls Try.prog 74 #[dv d, .slice (some ⟨gb, 0, none⟩) m m] w fun e w' => e = .returned (.int .i64 (pr (wv d fb) m : Nat)) ∧ Below w.heap.size w w' := hwy
  clear hwy hnl hpl hpp hvA hvC
  generalize num (nn (wv d fb) (mt fa fb n) m (min n m)) (pr (wv d fb) m) = x0 at *
  generalize den (nn (wv d fb) (mt fa fb n) m (min n m)) (pr (wv d fb) m) = y0 at *
  generalize nn (wv d fb) (mt fa fb n) m (min n m) = N at *
  generalize pr (wv d fb) m = P at *
  unfold dv at hov hwy'
  have Hov := Lib.hid hov; clear hov
  have Hwy := Lib.hid hwy'; clear hwy'
  have Hcut := Lib.hid hcut; clear hcut
  unfold dv
  have hB0 := na (na (n0 w) (sixO d 22)) (.cells #[.int .i64 0, .int .i64 0] 29)
  have hD0 := (At.new6 w d 22 rfl).past (.cells #[.int .i64 0, .int .i64 0] 29)
  have hR0 := At.new2 (w.alloc (sixO d 22)) 29
  rw [size_alloc] at hR0
  obtain ⟨e0, e1, e2, e3, e4, e5⟩ := hD0.six
  have hA0 := (hA.past (sixO d 22)).past (.cells #[.int .i64 0, .int .i64 0] 29)
  have hC0 := (hC.past (sixO d 22)).past (.cells #[.int .i64 0, .int .i64 0] 29)
  have hgal := hA.lt
  have hgbl := hC.lt
  clear hA hC
  go_enter Try.func35, Try.ntmps35
  go_wp2_with fail
  refine (HpA.out _ hA0).mono ?_
  rintro e w1 ⟨rfl, hb1⟩
  have hR1 := hR0.up hb1
  have hD1 := hD0.up hb1
  have hA1 := hA0.up hb1
  have hC1 := hC0.up hb1
  have hB1 := nx hB0 hb1
  clear e0 e1 e2 e3 e4 e5
  obtain ⟨e0, e1, e2, e3, e4, e5⟩ := hD1.six
  go_wp2_with fail
  refine (HpC.out _ hC1).mono ?_
  rintro e w2 ⟨rfl, hb2⟩
  have hR2 := hR1.up hb2
  have hD2 := hD1.up hb2
  have hA2 := hA1.up hb2
  have hC2 := hC1.up hb2
  have hB2 := nx hB1 hb2
  clear e0 e1 e2 e3 e4 e5
  obtain ⟨W, hW⟩ : ∃ W, W = w2 := ⟨_, rfl⟩
  have hR := hR2
  have hD := hD2
  have hA := hA2
  have hC := hC2
  have hB := hB2
  rw [← hW] at hR hD hA hC hB ⊢
  clear hW hR0 hR1 hR2 hD0 hD1 hD2 hA0 hA1 hA2 hC0 hC1 hC2 hB0 hB1 hB2 hb1 hb2
  go_wp2_with fail
  refine wp_region_inc (I := fun L az w' => ∃ u7 u19 u20 u21 u22 u23 u24 u25 u26 : Value, az = frO d ga n gb m w.heap.size u7 u19 u20 u21 u22 u23 u24 u25 u26 ∧ (L 0 = true → u19 = (.agg #[.int .i64 (d 0), .int .i64 (d 1), .int .i64 (d 2), .int .i64 (d 3), .int .i64 (d 4), .int .i64 (d 5)])) ∧ (L 1 = true → u20 = (.slice (some ⟨ga, 0, none⟩) n n)) ∧ (L 2 = true → u21 = (.slice (some ⟨gb, 0, none⟩) m m)) ∧ (L 3 = true → u22 = (.int .i64 ((N : Nat) : Int))) ∧ (L 4 = true → u23 = (.agg #[.int .i64 (d 0), .int .i64 (d 1), .int .i64 (d 2), .int .i64 (d 3), .int .i64 (d 4), .int .i64 (d 5)])) ∧ (L 5 = true → u24 = (.slice (some ⟨gb, 0, none⟩) m m)) ∧ (L 6 = true → u25 = (.int .i64 ((P : Nat) : Int))) ∧ (L 7 = true → u26 = (v2 x0 y0)) ∧ (L 9 = true → u7 = (.bool true)) ∧ Below w.heap.size W w' ∧ At w' w.heap.size 6 d ∧ At w' ga n fa ∧ At w' gb m fb ∧ At w' (w.heap.size + 1) 2 (fun k => if L 8 = true then (fr x0 y0) k else (fun _ => 0) k)) (by kernel_rfl) (by kernel_rfl) ?_ ?_ ?_
  · exact ⟨_, _, _, _, _, _, _, _, _, rfl, (fun h => by cases h), (fun h => by cases h), (fun h => by cases h), (fun h => by cases h), (fun h => by cases h), (fun h => by cases h), (fun h => by cases h), (fun h => by cases h), (fun h => by cases h), ((Below.refl _ W).drew), (hD).drew, (hA).drew, (hC).drew, At.congr ((hR).drew) (fun k _ => rfl)⟩
  · intro L az wz i hi hL hdep hcl hI
    obtain ⟨u7, u19, u20, u21, u22, u23, u24, u25, u26, rfl, e0, e1, e2, e3, e4, e5, e6, e7, e9, hB0, hK0, hK1, hK2, hT0⟩ := hI
    have hi' : i < 10 := hi
    clear hi
    obtain rfl | rfl | rfl | rfl | rfl | rfl | rfl | rfl | rfl | rfl : i = 0 ∨ i = 1 ∨ i = 2 ∨ i = 3 ∨ i = 4 ∨ i = 5 ∨ i = 6 ∨ i = 7 ∨ i = 8 ∨ i = 9 := by omega
    · obtain ⟨y0, y1, y2, y3, y4, y5⟩ := hK0.six
      have HB := Lib.hid hB0; clear hB0
      have HK0 := Lib.hid hK0; clear hK0
      have HK1 := Lib.hid hK1; clear hK1
      have HK2 := Lib.hid hK2; clear hK2
      refine wpOp_want rfl rfl ?_
      unfold frO
      go_simp
      exact ⟨u7, (.agg #[.int .i64 (d 0), .int .i64 (d 1), .int .i64 (d 2), .int .i64 (d 3), .int .i64 (d 4), .int .i64 (d 5)]), u20, u21, u22, u23, u24, u25, u26, by first | rfl | simp, fun _ => rfl, e1, e2, e3, e4, e5, e6, e7, e9, HB.out, HK0.out, HK1.out, HK2.out, hT0⟩
    · refine wpOp_want rfl rfl (Oper.wp_of_quiet (C := fun w' => w' = wz) (K := fun a' => a' = frO d ga n gb m w.heap.size (u7) (u19) ((.slice (some ⟨ga, 0, none⟩) n n)) (u21) (u22) (u23) (u24) (u25) (u26)) rfl ?_ ?_)
      · intro a' w' hC' hK
        subst hK
        subst hC'
        exact ⟨u7, u19, (.slice (some ⟨ga, 0, none⟩) n n), u21, u22, u23, u24, u25, u26, by first | rfl | simp, e0, fun _ => rfl, e2, e3, e4, e5, e6, e7, e9, hB0, hK0, hK1, hK2, hT0⟩
      · exact BigFrame.quiet_move _ rfl rfl
    · refine wpOp_want rfl rfl (Oper.wp_of_quiet (C := fun w' => w' = wz) (K := fun a' => a' = frO d ga n gb m w.heap.size (u7) (u19) (u20) ((.slice (some ⟨gb, 0, none⟩) m m)) (u22) (u23) (u24) (u25) (u26)) rfl ?_ ?_)
      · intro a' w' hC' hK
        subst hK
        subst hC'
        exact ⟨u7, u19, u20, (.slice (some ⟨gb, 0, none⟩) m m), u22, u23, u24, u25, u26, by first | rfl | simp, e0, e1, fun _ => rfl, e3, e4, e5, e6, e7, e9, hB0, hK0, hK1, hK2, hT0⟩
      · exact BigFrame.quiet_move _ rfl rfl
    · obtain rfl := e0 (hdep 0 (by kernel_rfl))
      obtain rfl := e1 (hdep 1 (by kernel_rfl))
      obtain rfl := e2 (hdep 2 (by kernel_rfl))
      have HB := Lib.hid hB0; clear hB0
      have HK0 := Lib.hid hK0; clear hK0
      have HK1 := Lib.hid hK1; clear hK1
      have HK2 := Lib.hid hK2; clear hK2
      refine wpOp_want rfl rfl ?_
      unfold frO
      go_simp
      refine (Hov.out _ HK1.out HK2.out).mono ?_
      rintro e w9 ⟨rfl, hb⟩
      go_simp
      exact ⟨u7, (.agg #[.int .i64 (d 0), .int .i64 (d 1), .int .i64 (d 2), .int .i64 (d 3), .int .i64 (d 4), .int .i64 (d 5)]), (.slice (some ⟨ga, 0, none⟩) n n), (.slice (some ⟨gb, 0, none⟩) m m), (.int .i64 ((N : Nat) : Int)), u23, u24, u25, u26, by first | rfl | simp, fun _ => rfl, fun _ => rfl, fun _ => rfl, fun _ => rfl, e4, e5, e6, e7, e9, HB.out.trans (hb.mono (Nat.le_trans hB.size HB.out.size)), HK0.out.up hb, HK1.out.up hb, HK2.out.up hb, At.congr (hT0.up hb) (fun k _ => rfl)⟩
    · obtain ⟨y0, y1, y2, y3, y4, y5⟩ := hK0.six
      have HB := Lib.hid hB0; clear hB0
      have HK0 := Lib.hid hK0; clear hK0
      have HK1 := Lib.hid hK1; clear hK1
      have HK2 := Lib.hid hK2; clear hK2
      refine wpOp_want rfl rfl ?_
      unfold frO
      go_simp
      exact ⟨u7, u19, u20, u21, u22, (.agg #[.int .i64 (d 0), .int .i64 (d 1), .int .i64 (d 2), .int .i64 (d 3), .int .i64 (d 4), .int .i64 (d 5)]), u24, u25, u26, by first | rfl | simp, e0, e1, e2, e3, fun _ => rfl, e5, e6, e7, e9, HB.out, HK0.out, HK1.out, HK2.out, hT0⟩
    · refine wpOp_want rfl rfl (Oper.wp_of_quiet (C := fun w' => w' = wz) (K := fun a' => a' = frO d ga n gb m w.heap.size (u7) (u19) (u20) (u21) (u22) (u23) ((.slice (some ⟨gb, 0, none⟩) m m)) (u25) (u26)) rfl ?_ ?_)
      · intro a' w' hC' hK
        subst hK
        subst hC'
        exact ⟨u7, u19, u20, u21, u22, u23, (.slice (some ⟨gb, 0, none⟩) m m), u25, u26, by first | rfl | simp, e0, e1, e2, e3, e4, fun _ => rfl, e6, e7, e9, hB0, hK0, hK1, hK2, hT0⟩
      · exact BigFrame.quiet_move _ rfl rfl
    · obtain rfl := e4 (hdep 4 (by kernel_rfl))
      obtain rfl := e5 (hdep 5 (by kernel_rfl))
      have HB := Lib.hid hB0; clear hB0
      have HK0 := Lib.hid hK0; clear hK0
      have HK1 := Lib.hid hK1; clear hK1
      have HK2 := Lib.hid hK2; clear hK2
      refine wpOp_want rfl rfl ?_
      unfold frO
      go_simp
      refine (Hwy.out _ HK2.out).mono ?_
      rintro e w9 ⟨rfl, hb⟩
      go_simp
      exact ⟨u7, u19, u20, u21, u22, (.agg #[.int .i64 (d 0), .int .i64 (d 1), .int .i64 (d 2), .int .i64 (d 3), .int .i64 (d 4), .int .i64 (d 5)]), (.slice (some ⟨gb, 0, none⟩) m m), (.int .i64 ((P : Nat) : Int)), u26, by first | rfl | simp, e0, e1, e2, e3, fun _ => rfl, fun _ => rfl, fun _ => rfl, e7, e9, HB.out.trans (hb.mono (Nat.le_trans hB.size HB.out.size)), HK0.out.up hb, HK1.out.up hb, HK2.out.up hb, At.congr (hT0.up hb) (fun k _ => rfl)⟩
    · obtain rfl := e3 (hdep 3 (by kernel_rfl))
      obtain rfl := e6 (hdep 6 (by kernel_rfl))
      have HB := Lib.hid hB0; clear hB0
      have HK0 := Lib.hid hK0; clear hK0
      have HK1 := Lib.hid hK1; clear hK1
      have HK2 := Lib.hid hK2; clear hK2
      refine wpOp_want rfl rfl ?_
      unfold frO
      go_simp
      refine (Hcut.out _).mono ?_
      rintro e w9 ⟨rfl, hb⟩
      go_simp
      exact ⟨u7, u19, u20, u21, (.int .i64 ((N : Nat) : Int)), u23, u24, (.int .i64 ((P : Nat) : Int)), (v2 x0 y0), by first | rfl | simp, e0, e1, e2, fun _ => rfl, e4, e5, fun _ => rfl, fun _ => rfl, e9, HB.out.trans (hb.mono (Nat.le_trans hB.size HB.out.size)), HK0.out.up hb, HK1.out.up hb, HK2.out.up hb, At.congr (hT0.up hb) (fun k _ => rfl)⟩
    · obtain rfl := e7 (hdep 7 (by kernel_rfl))
      have hq3' : At wz (w.heap.size + 1) 2 (fun _ => 0) := hT0.congr (fun k _ => by show (if L 8 = true then _ else _) = _; rw [hL]; rfl)
      have o0 := hq3'.cell 0 (by omega)
      have z0 := hq3'.free 0
      have o1 := hq3'.cell 1 (by omega)
      have z1 := hq3'.free 1
      have HB := Lib.hid hB0; clear hB0
      have HK0 := Lib.hid hK0; clear hK0
      have HK1 := Lib.hid hK1; clear hK1
      have HK2 := Lib.hid hK2; clear hK2
      refine wpOp_want rfl rfl ?_
      unfold frO
      go_simp
      exact ⟨u7, u19, u20, u21, u22, u23, u24, u25, (v2 x0 y0), by first | rfl | simp, e0, e1, e2, e3, e4, e5, e6, fun _ => rfl, e9, HB.out.trans (setCells_below (p := (w.heap.size + 1)) (B := w.heap.size) (Nat.le_succ _) (vals 2 (fr x0 y0)) 0), HK0.out.keep (p := (w.heap.size + 1)) (by omega) (vals 2 (fr x0 y0)) 0, HK1.out.keep (p := (w.heap.size + 1)) (by omega) (vals 2 (fr x0 y0)) 0, HK2.out.keep (p := (w.heap.size + 1)) (by omega) (vals 2 (fr x0 y0)) 0, At.congr (hq3'.stored (fr x0 y0)) (fun k _ => rfl)⟩
    · refine wpOp_want rfl rfl (Oper.wp_of_quiet (C := fun w' => w' = wz) (K := fun a' => a' = frO d ga n gb m w.heap.size ((.bool true)) (u19) (u20) (u21) (u22) (u23) (u24) (u25) (u26)) rfl ?_ ?_)
      · intro a' w' hC' hK
        subst hK
        subst hC'
        exact ⟨(.bool true), u19, u20, u21, u22, u23, u24, u25, u26, by first | rfl | simp, e0, e1, e2, e3, e4, e5, e6, e7, fun _ => rfl, hB0, hK0, hK1, hK2, hT0⟩
      · exact BigFrame.quiet_assign _ rfl rfl
  intro L az wz hL hcl hI
  obtain ⟨u7, u19, u20, u21, u22, u23, u24, u25, u26, rfl, e0, e1, e2, e3, e4, e5, e6, e7, e9, hB0, hK0, hK1, hK2, hT0⟩ := hI
  obtain rfl := e0 (hL 0 (by decide))
  obtain rfl := e1 (hL 1 (by decide))
  obtain rfl := e2 (hL 2 (by decide))
  obtain rfl := e3 (hL 3 (by decide))
  obtain rfl := e4 (hL 4 (by decide))
  obtain rfl := e5 (hL 5 (by decide))
  obtain rfl := e6 (hL 6 (by decide))
  obtain rfl := e7 (hL 7 (by decide))
  obtain rfl := e9 (hL 9 (by decide))
  have hT : At wz (w.heap.size + 1) 2 (fr x0 y0) := hT0.congr fun k hk => by rw [if_pos (hL 8 (by decide))]
  clear hT0
  clear hcl hL
  unfold frO
  have hB := hB.trans hB0
  go_wp2_with fail
  exact ret_cell_tmp (b := w.heap.size + 1) (n := 2) (f := fr x0 y0) Try.results35 rfl rfl Try.underlying29 (by kernel_rfl) hT rfl ⟨rfl, hB⟩

set_option maxRecDepth 100000 in
set_option maxHeartbeats 4000000 in
theorem specPO_any (d : Nat → Int) (ga n gb m : Nat) (fa fb : Nat → Int) (w : World) (hA : At w ga n fa) (hC : At w gb m fb) :
    Calls Try.prog 34 #[dv d, .slice (some ⟨ga, 0, none⟩) n n, .slice (some ⟨gb, 0, none⟩) m m] w fun e w' => e = .returned (.tuple #[v2 (ox d n fa m fb) (oy d n fa m fb), .bool (okO d n fa m fb)]) ∧ Below w.heap.size w w' := by
  have hc := fun (A : Option Addr) (k c : Nat) (f : Nat → Int) (w : World) (h : RowI w A k f) => specPh_any d A k c f w h
  unfold dv at hc
  have Hc := Lib.hid hc; clear hc
  have hpA := fun w (h : At w ga n fa) => Hc.out (some ⟨ga, 0, none⟩) n n fa w (row_at h)
  have hpC := fun w (h : At w gb m fb) => Hc.out (some ⟨gb, 0, none⟩) m m fb w (row_at h)
  clear Hc
  cases h1 : okPh d n fa
  · have hok : okO d n fa m fb = false := by simp [okO, h1]
    rw [h1] at hpA
    have HpA := Lib.hid hpA; clear hpA hpC h1
    rw [hok, (o_no hok).1, (o_no hok).2]
    clear hok
    unfold dv
    have hB0 := na (na (n0 w) (sixO d 22)) (.cells #[.int .i64 0, .int .i64 0] 29)
    have hD0 := (At.new6 w d 22 rfl).past (.cells #[.int .i64 0, .int .i64 0] 29)
    have hR0 := At.new2 (w.alloc (sixO d 22)) 29
    rw [size_alloc] at hR0
    obtain ⟨e0, e1, e2, e3, e4, e5⟩ := hD0.six
    have hA0 := (hA.past (sixO d 22)).past (.cells #[.int .i64 0, .int .i64 0] 29)
    have hC0 := (hC.past (sixO d 22)).past (.cells #[.int .i64 0, .int .i64 0] 29)
    have hgal := hA.lt
    have hgbl := hC.lt
    clear hA hC
    go_enter Try.func34, Try.ntmps34
    go_wp2_with fail
    refine (HpA.out _ hA0).mono ?_
    rintro e w1 ⟨rfl, hb1⟩
    have hR1 := hR0.up hb1
    have hD1 := hD0.up hb1
    have hA1 := hA0.up hb1
    have hC1 := hC0.up hb1
    have hB1 := nx hB0 hb1
    clear e0 e1 e2 e3 e4 e5
    have hRX := hR1
    have c0 := hRX.cell 0 (by omega)
    have c1 := hRX.cell 1 (by omega)
    have z0 := hRX.free 0
    have z1 := hRX.free 1
    go_wp2_with fail
    refine ret_cell_tmp (b := w.heap.size + 1) (n := 2) (f := fr 0 0) Try.results34 rfl rfl Try.underlying29 (by kernel_rfl) (fin2' hRX _ _) rfl ⟨rfl, ?_⟩
    exact (hB1.setCell (p := ⟨w.heap.size + 1, 0, none⟩) (Nat.le_succ _) _).setCell (p := ⟨w.heap.size + 1, 1, none⟩) (Nat.le_succ _) _
  rw [h1] at hpA
  have HpA := Lib.hid hpA; clear hpA
  cases h2 : okPh d m fb
  · have hok : okO d n fa m fb = false := by simp [okO, h2]
    rw [h2] at hpC
    have HpC := Lib.hid hpC; clear hpC h2 h1
    rw [hok, (o_no hok).1, (o_no hok).2]
    clear hok
    unfold dv
    have hB0 := na (na (n0 w) (sixO d 22)) (.cells #[.int .i64 0, .int .i64 0] 29)
    have hD0 := (At.new6 w d 22 rfl).past (.cells #[.int .i64 0, .int .i64 0] 29)
    have hR0 := At.new2 (w.alloc (sixO d 22)) 29
    rw [size_alloc] at hR0
    obtain ⟨e0, e1, e2, e3, e4, e5⟩ := hD0.six
    have hA0 := (hA.past (sixO d 22)).past (.cells #[.int .i64 0, .int .i64 0] 29)
    have hC0 := (hC.past (sixO d 22)).past (.cells #[.int .i64 0, .int .i64 0] 29)
    have hgal := hA.lt
    have hgbl := hC.lt
    clear hA hC
    go_enter Try.func34, Try.ntmps34
    go_wp2_with fail
    refine (HpA.out _ hA0).mono ?_
    rintro e w1 ⟨rfl, hb1⟩
    have hR1 := hR0.up hb1
    have hD1 := hD0.up hb1
    have hA1 := hA0.up hb1
    have hC1 := hC0.up hb1
    have hB1 := nx hB0 hb1
    clear e0 e1 e2 e3 e4 e5
    obtain ⟨e0, e1, e2, e3, e4, e5⟩ := hD1.six
    go_wp2_with fail
    refine (HpC.out _ hC1).mono ?_
    rintro e w2 ⟨rfl, hb2⟩
    have hR2 := hR1.up hb2
    have hD2 := hD1.up hb2
    have hA2 := hA1.up hb2
    have hC2 := hC1.up hb2
    have hB2 := nx hB1 hb2
    clear e0 e1 e2 e3 e4 e5
    have hRX := hR2
    have c0 := hRX.cell 0 (by omega)
    have c1 := hRX.cell 1 (by omega)
    have z0 := hRX.free 0
    have z1 := hRX.free 1
    go_wp2_with fail
    refine ret_cell_tmp (b := w.heap.size + 1) (n := 2) (f := fr 0 0) Try.results34 rfl rfl Try.underlying29 (by kernel_rfl) (fin2' hRX _ _) rfl ⟨rfl, ?_⟩
    exact (hB2.setCell (p := ⟨w.heap.size + 1, 0, none⟩) (Nat.le_succ _) _).setCell (p := ⟨w.heap.size + 1, 1, none⟩) (Nat.le_succ _) _
  have hok : okO d n fa m fb = true := by simp [okO, h1, h2]
  rw [h2] at hpC
  have HpC := Lib.hid hpC; clear hpC
  rw [hok, (o_yes hok).1, (o_yes hok).2]
  clear hok
  obtain ⟨_, hn1, hn6, hvA⟩ := of_ph h1
  obtain ⟨_, hm1, hm6, hvC⟩ := of_ph h2
  clear h1 h2
  have hov := fun w (h1 : At w ga n fa) (h2 : At w gb m fb) => specOv_any d ga n gb m fa fb w h1 h2 ⟨hn1, hn6⟩ ⟨hm1, hm6⟩ hvC
  generalize num (nn (wv d fb) (mt fa fb n) m (min n m)) (pr (wv d fb) m) = x0 at *
  generalize den (nn (wv d fb) (mt fa fb n) m (min n m)) (pr (wv d fb) m) = y0 at *
  unfold dv at hov
  have Hov := Lib.hid hov; clear hov
  clear hvA hvC
  unfold dv
  have hB0 := na (na (n0 w) (sixO d 22)) (.cells #[.int .i64 0, .int .i64 0] 29)
  have hD0 := (At.new6 w d 22 rfl).past (.cells #[.int .i64 0, .int .i64 0] 29)
  have hR0 := At.new2 (w.alloc (sixO d 22)) 29
  rw [size_alloc] at hR0
  obtain ⟨e0, e1, e2, e3, e4, e5⟩ := hD0.six
  have hA0 := (hA.past (sixO d 22)).past (.cells #[.int .i64 0, .int .i64 0] 29)
  have hC0 := (hC.past (sixO d 22)).past (.cells #[.int .i64 0, .int .i64 0] 29)
  have hgal := hA.lt
  have hgbl := hC.lt
  clear hA hC
  go_enter Try.func34, Try.ntmps34
  go_wp2_with fail
  refine (HpA.out _ hA0).mono ?_
  rintro e w1 ⟨rfl, hb1⟩
  have hR1 := hR0.up hb1
  have hD1 := hD0.up hb1
  have hA1 := hA0.up hb1
  have hC1 := hC0.up hb1
  have hB1 := nx hB0 hb1
  clear e0 e1 e2 e3 e4 e5
  obtain ⟨e0, e1, e2, e3, e4, e5⟩ := hD1.six
  go_wp2_with fail
  refine (HpC.out _ hC1).mono ?_
  rintro e w2 ⟨rfl, hb2⟩
  have hR2 := hR1.up hb2
  have hD2 := hD1.up hb2
  have hA2 := hA1.up hb2
  have hC2 := hC1.up hb2
  have hB2 := nx hB1 hb2
  clear e0 e1 e2 e3 e4 e5
  obtain ⟨e0, e1, e2, e3, e4, e5⟩ := hD2.six
  go_wp2_with fail
  refine (Hov.out _ hA2 hC2).mono ?_
  rintro e w3 ⟨rfl, hb3⟩
  have hR3 := hR2.up hb3
  have hD3 := hD2.up hb3
  have hA3 := hA2.up hb3
  have hC3 := hC2.up hb3
  have hB3 := nx hB2 hb3
  clear e0 e1 e2 e3 e4 e5
  have hRX := hR3
  have c0 := hRX.cell 0 (by omega)
  have c1 := hRX.cell 1 (by omega)
  have z0 := hRX.free 0
  have z1 := hRX.free 1
  go_wp2_with fail
  refine ret_cell_tmp (b := w.heap.size + 1) (n := 2) (f := fr x0 y0) Try.results34 rfl rfl Try.underlying29 (by kernel_rfl) (fin2' hRX _ _) rfl ⟨rfl, ?_⟩
  exact (hB3.setCell (p := ⟨w.heap.size + 1, 0, none⟩) (Nat.le_succ _) _).setCell (p := ⟨w.heap.size + 1, 1, none⟩) (Nat.le_succ _) _

set_option maxRecDepth 100000 in
set_option maxHeartbeats 4000000 in
theorem implPW_any (d : Nat → Int) (ga n : Nat) (fa : Nat → Int) (w : World) (hA : At w ga n fa) :
    Calls Try.prog 32 #[dv d, .slice (some ⟨ga, 0, none⟩) n n] w fun e w' => e = .returned (.tuple #[v2 (ox d n fa n fa) (oy d n fa n fa), .bool (okO d n fa n fa)]) ∧ Below w.heap.size w w' := by
  have ho := fun w (h : At w ga n fa) => implPO_any d ga n ga n fa fa w h h
  generalize ox d n fa n fa = x0 at *
  generalize oy d n fa n fa = y0 at *
  generalize okO d n fa n fa = z0 at *
  unfold dv at ho
  have Ho := Lib.hid ho; clear ho
  unfold dv
  have hB0 := na (na (n0 w) (sixO d 22)) (.cells #[.int .i64 0, .int .i64 0] 29)
  have hD0 := (At.new6 w d 22 rfl).past (.cells #[.int .i64 0, .int .i64 0] 29)
  have hR0 := At.new2 (w.alloc (sixO d 22)) 29
  rw [size_alloc] at hR0
  obtain ⟨e0, e1, e2, e3, e4, e5⟩ := hD0.six
  have hA0 := (hA.past (sixO d 22)).past (.cells #[.int .i64 0, .int .i64 0] 29)
  have hgal := hA.lt
  clear hA
  go_enter Try.func32, Try.ntmps32
  go_wp2_with fail
  refine (Ho.out _ hA0).mono ?_
  rintro e w1 ⟨rfl, hb1⟩
  have hR1 := hR0.up hb1
  have hD1 := hD0.up hb1
  have hA1 := hA0.up hb1
  have hB1 := nx hB0 hb1
  clear e0 e1 e2 e3 e4 e5
  have hRX := hR1
  have c0 := hRX.cell 0 (by omega)
  have c1 := hRX.cell 1 (by omega)
  have z0 := hRX.free 0
  have z1 := hRX.free 1
  go_wp2_with fail
  refine ret_cell_tmp (b := w.heap.size + 1) (n := 2) (f := fr x0 y0) Try.results32 rfl rfl Try.underlying29 (by kernel_rfl) (fin2' hRX _ _) rfl ⟨rfl, ?_⟩
  exact (hB1.setCell (p := ⟨w.heap.size + 1, 0, none⟩) (Nat.le_succ _) _).setCell (p := ⟨w.heap.size + 1, 1, none⟩) (Nat.le_succ _) _

set_option maxRecDepth 100000 in
set_option maxHeartbeats 4000000 in
theorem specPW_any (d : Nat → Int) (ga n : Nat) (fa : Nat → Int) (w : World) (hA : At w ga n fa) :
    Calls Try.prog 30 #[dv d, .slice (some ⟨ga, 0, none⟩) n n] w fun e w' => e = .returned (.tuple #[v2 (ox d n fa n fa) (oy d n fa n fa), .bool (okO d n fa n fa)]) ∧ Below w.heap.size w w' := by
  have hc := fun (A : Option Addr) (k c : Nat) (f : Nat → Int) (w : World) (h : RowI w A k f) => specPh_any d A k c f w h
  unfold dv at hc
  have Hc := Lib.hid hc; clear hc
  have hpA := fun w (h : At w ga n fa) => Hc.out (some ⟨ga, 0, none⟩) n n fa w (row_at h)
  clear Hc
  cases h1 : okPh d n fa
  · have hok : okO d n fa n fa = false := by simp [okO, h1]
    rw [h1] at hpA
    have HpA := Lib.hid hpA; clear hpA h1
    rw [hok, (o_no hok).1, (o_no hok).2]
    clear hok
    unfold dv
    have hB0 := na (na (n0 w) (sixO d 22)) (.cells #[.int .i64 0, .int .i64 0] 29)
    have hD0 := (At.new6 w d 22 rfl).past (.cells #[.int .i64 0, .int .i64 0] 29)
    have hR0 := At.new2 (w.alloc (sixO d 22)) 29
    rw [size_alloc] at hR0
    obtain ⟨e0, e1, e2, e3, e4, e5⟩ := hD0.six
    have hA0 := (hA.past (sixO d 22)).past (.cells #[.int .i64 0, .int .i64 0] 29)
    have hgal := hA.lt
    clear hA
    go_enter Try.func30, Try.ntmps30
    go_wp2_with fail
    refine (HpA.out _ hA0).mono ?_
    rintro e w1 ⟨rfl, hb1⟩
    have hR1 := hR0.up hb1
    have hD1 := hD0.up hb1
    have hA1 := hA0.up hb1
    have hB1 := nx hB0 hb1
    clear e0 e1 e2 e3 e4 e5
    have hRX := hR1
    have c0 := hRX.cell 0 (by omega)
    have c1 := hRX.cell 1 (by omega)
    have z0 := hRX.free 0
    have z1 := hRX.free 1
    go_wp2_with fail
    refine ret_cell_tmp (b := w.heap.size + 1) (n := 2) (f := fr 0 0) Try.results30 rfl rfl Try.underlying29 (by kernel_rfl) (fin2' hRX _ _) rfl ⟨rfl, ?_⟩
    exact (hB1.setCell (p := ⟨w.heap.size + 1, 0, none⟩) (Nat.le_succ _) _).setCell (p := ⟨w.heap.size + 1, 1, none⟩) (Nat.le_succ _) _
  have hok : okO d n fa n fa = true := by simp [okO, h1]
  rw [h1] at hpA
  have HpA := Lib.hid hpA; clear hpA
  rw [hok, (o_yes hok).1, (o_yes hok).2]
  clear hok
  obtain ⟨_, hn1, hn6, hvA⟩ := of_ph h1
  clear h1
  have hov := fun w (h1 : At w ga n fa) => specOv_any d ga n ga n fa fa w h1 h1 ⟨hn1, hn6⟩ ⟨hn1, hn6⟩ hvA
  generalize num (nn (wv d fa) (mt fa fa n) n (min n n)) (pr (wv d fa) n) = x0 at *
  generalize den (nn (wv d fa) (mt fa fa n) n (min n n)) (pr (wv d fa) n) = y0 at *
  unfold dv at hov
  have Hov := Lib.hid hov; clear hov hvA
  unfold dv
  have hB0 := na (na (n0 w) (sixO d 22)) (.cells #[.int .i64 0, .int .i64 0] 29)
  have hD0 := (At.new6 w d 22 rfl).past (.cells #[.int .i64 0, .int .i64 0] 29)
  have hR0 := At.new2 (w.alloc (sixO d 22)) 29
  rw [size_alloc] at hR0
  obtain ⟨e0, e1, e2, e3, e4, e5⟩ := hD0.six
  have hA0 := (hA.past (sixO d 22)).past (.cells #[.int .i64 0, .int .i64 0] 29)
  have hgal := hA.lt
  clear hA
  go_enter Try.func30, Try.ntmps30
  go_wp2_with fail
  refine (HpA.out _ hA0).mono ?_
  rintro e w1 ⟨rfl, hb1⟩
  have hR1 := hR0.up hb1
  have hD1 := hD0.up hb1
  have hA1 := hA0.up hb1
  have hB1 := nx hB0 hb1
  clear e0 e1 e2 e3 e4 e5
  obtain ⟨e0, e1, e2, e3, e4, e5⟩ := hD1.six
  go_wp2_with fail
  refine (Hov.out _ hA1).mono ?_
  rintro e w2 ⟨rfl, hb2⟩
  have hR2 := hR1.up hb2
  have hD2 := hD1.up hb2
  have hA2 := hA1.up hb2
  have hB2 := nx hB1 hb2
  clear e0 e1 e2 e3 e4 e5
  have hRX := hR2
  have c0 := hRX.cell 0 (by omega)
  have c1 := hRX.cell 1 (by omega)
  have z0 := hRX.free 0
  have z1 := hRX.free 1
  go_wp2_with fail
  refine ret_cell_tmp (b := w.heap.size + 1) (n := 2) (f := fr x0 y0) Try.results30 rfl rfl Try.underlying29 (by kernel_rfl) (fin2' hRX _ _) rfl ⟨rfl, ?_⟩
  exact (hB2.setCell (p := ⟨w.heap.size + 1, 0, none⟩) (Nat.le_succ _) _).setCell (p := ⟨w.heap.size + 1, 1, none⟩) (Nat.le_succ _) _


end POv
end Go.Proofs.Ytdodokeebmdceaa
