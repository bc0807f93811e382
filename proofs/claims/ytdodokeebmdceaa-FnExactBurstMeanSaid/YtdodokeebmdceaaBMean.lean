/-
  BurstMean, both sides.
-/
import Derived.Test.YtdodokeebmdceaaRows
import Derived.Test.YtdodokeebmdceaaArr
import Derived.Test.YtdodokeebmdceaaAnyR
import Derived.Test.YtdodokeebmdceaaDieW
import Derived.Test.YtdodokeebmdceaaSortW
import Derived.Test.YtdodokeebmdceaaFracW
import Derived.Test.YtdodokeebmdceaaFracL
import Derived.Test.YtdodokeebmdceaaCutW
import Derived.Test.YtdodokeebmdceaaAll6
import Derived.Test.YtdodokeebmdceaaAllL
import Derived.Test.YtdodokeebmdceaaOwnL
import Derived.Test.YtdodokeebmdceaaFracM
import Derived.Test.YtdodokeebmdceaaWgtM
import Derived.Test.YtdodokeebmdceaaWgtW
import Derived.Test.YtdodokeebmdceaaWaitW
import Derived.Test.YtdodokeebmdceaaOpenD
import Derived.WalkKit
import Derived.WalkLawsBesides
import Derived.WalkSpells
import Derived.ProofKit
import Derived.OpenShut
import Derived.Deep.RegionWith
import Derived.Deep.QuietTactic
import Derived.BigQuiet
namespace Go.Proofs.Ytdodokeebmdceaa
open Go.ChangeShapes Go.WideShapes Go.ChangeAt Go.RowKit
open Go.ChangeMaps (open_string shut_string)

namespace BMean
open Dice Arr DieW SortW FracW CutW All6 AllL OwnL FracM WgtM WgtW AnyR WaitW

def frZ (d : Nat → Int) (h : Nat) (u3 u15 u16 u17 u18 u19 u20 u21 u22 : Value) : Act := ⟨#[(.agg #[.int .i64 (d 0), .int .i64 (d 1), .int .i64 (d 2), .int .i64 (d 3), .int .i64 (d 4), .int .i64 (d 5)]), .pointer (some ⟨h, 0, none⟩), .pointer (some ⟨h + 1, 0, none⟩), u3, (.agg #[.int .i64 (d 0), .int .i64 (d 1), .int .i64 (d 2), .int .i64 (d 3), .int .i64 (d 4), .int .i64 (d 5)]), .bool true, .bool false, .bool false, .pointer (some ⟨h, 0, none⟩), .int .i64 (d 0), .pointer (some ⟨h, 5, none⟩), .int .i64 (d 5), .bool false, .bool false, undef, u15, u16, u17, u18, u19, u20, u21, u22], []⟩

set_option maxRecDepth 100000 in
set_option maxHeartbeats 4000000 in
theorem implBM_any (d : Nat → Int) (w : World) :
    Calls Try.prog 20 #[dv d] w fun e w' => e = .returned (.tuple #[v2 (bx d) (by' d), .bool (okM d)]) ∧ Below w.heap.size w w' := by
  have hc := fun w => implIsDie_any d w
  unfold dv at hc
  have Hc := Lib.hid hc; clear hc
  cases hr : isDie d
  · rw [hr] at Hc
    have hok : okM d = false := by simp [okM, hr]
    rw [hok, (b_no hok).1, (b_no hok).2]
    clear hok
    clear hr
    unfold dv
    have hB0 := na (na (n0 w) (sixO d 22)) (.cells #[.int .i64 0, .int .i64 0] 29)
    have hD0 := (At.new6 w d 22 rfl).past (.cells #[.int .i64 0, .int .i64 0] 29)
    have hR0 := At.new2 (w.alloc (sixO d 22)) 29
    rw [size_alloc] at hR0
    obtain ⟨e0, e1, e2, e3, e4, e5⟩ := hD0.six
    go_enter Try.func20, Try.ntmps20
    go_wp2_with fail
    refine (Hc.out _).mono ?_
    rintro e w1 ⟨rfl, hb1⟩
    have hR1 := hR0.up hb1
    have hD1 := hD0.up hb1
    have hB1 := nx hB0 hb1
    clear e0 e1 e2 e3 e4 e5
    have hRX := hR1
    have c0 := hRX.cell 0 (by omega)
    have c1 := hRX.cell 1 (by omega)
    have z0 := hRX.free 0
    have z1 := hRX.free 1
    go_wp2_with fail
    refine ret_cell_tmp (b := w.heap.size + 1) (n := 2) (f := fr 0 0) Try.results20 rfl rfl Try.underlying29 (by kernel_rfl) (fin2' hRX _ _) rfl ⟨rfl, ?_⟩
    exact (hB1.setCell (p := ⟨w.heap.size + 1, 0, none⟩) (Nat.le_succ _) _).setCell (p := ⟨w.heap.size + 1, 1, none⟩) (Nat.le_succ _) _
  · rw [hr] at Hc
    by_cases h0 : d 0 = d 5
    · have hb0 : (d 0 == d 5) = true := by simpa using h0
      have hok : okM d = false := by simp [okM, hr, hb0]
      rw [hok, (b_no hok).1, (b_no hok).2]
      clear hok
      clear hr h0
      unfold dv
      have hB0 := na (na (n0 w) (sixO d 22)) (.cells #[.int .i64 0, .int .i64 0] 29)
      have hD0 := (At.new6 w d 22 rfl).past (.cells #[.int .i64 0, .int .i64 0] 29)
      have hR0 := At.new2 (w.alloc (sixO d 22)) 29
      rw [size_alloc] at hR0
      obtain ⟨e0, e1, e2, e3, e4, e5⟩ := hD0.six
      go_enter Try.func20, Try.ntmps20
      go_wp2_with fail
      refine (Hc.out _).mono ?_
      rintro e w1 ⟨rfl, hb1⟩
      have hR1 := hR0.up hb1
      have hD1 := hD0.up hb1
      have hB1 := nx hB0 hb1
      clear e0 e1 e2 e3 e4 e5
      obtain ⟨e0, e1, e2, e3, e4, e5⟩ := hD1.six
      have hRX := hR1
      have c0 := hRX.cell 0 (by omega)
      have c1 := hRX.cell 1 (by omega)
      have z0 := hRX.free 0
      have z1 := hRX.free 1
      go_wp2_with fail
      refine ret_cell_tmp (b := w.heap.size + 1) (n := 2) (f := fr 0 0) Try.results20 rfl rfl Try.underlying29 (by kernel_rfl) (fin2' hRX _ _) rfl ⟨rfl, ?_⟩
      exact (hB1.setCell (p := ⟨w.heap.size + 1, 0, none⟩) (Nat.le_succ _) _).setCell (p := ⟨w.heap.size + 1, 1, none⟩) (Nat.le_succ _) _
    · have hb0 : (d 0 == d 5) = false := by simpa using h0
      have hok : okM d = true := by simp [okM, hr, hb0]
      rw [hok, (b_yes hok).1, (b_yes hok).2]
      clear hok
      have hF := faces_die hr
      have hwl := wgt_low (x := d 5) h0
      have hsl := sumF_le (fun j hj => (hF j hj).2.2) 6 (Nat.le_refl _)
      have hw := fun w => implW_any d (d 5) w
      unfold dv at hw
      have Hw := Lib.hid hw; clear hw
      have hsm := fun w => sumOf_any d (face d) w hF
      unfold dv at hsm
      have Hsm := Lib.hid hsm; clear hsm
      have Hcut : Hid (∀ w, Calls Try.prog 56 #[.int .i64 (sumF (face d) 6 : Nat), .int .i64 (6 - wgt d (d 5) 6 : Nat)] w fun e w' => e = .returned (v2 (num (sumF (face d) 6) (6 - wgt d (d 5) 6) : Nat) (den (sumF (face d) 6) (6 - wgt d (d 5) 6) : Nat)) ∧ Below w.heap.size w w') := fun w => FracL.fractionL _ _ w (by omega) (by omega) (by omega)
      generalize num (sumF (face d) 6) (6 - wgt d (d 5) 6) = x0 at *
      generalize den (sumF (face d) 6) (6 - wgt d (d 5) 6) = y0 at *
      have hv6 : (6 : Int) - (wgt d (d 5) 6 : Nat) = (6 - wgt d (d 5) 6 : Nat) := by omega
      clear hr h0
      generalize sumF (face d) 6 = s0 at *
      generalize wgt d (d 5) 6 = v at *
      have hv7 : (v : Int) ≤ 6 := by omega
      have wv : wrap64 (6 - (v : Int)) = ((6 - v : Nat) : Int) := by unfold wrap64; omega
      have wv2 : IntKind.i64.wrap ((6 - v : Nat) : Int) = ((6 - v : Nat) : Int) := FracL.wrap_sameL _ (by omega) (by omega)
      unfold dv
      have hB0 := na (na (n0 w) (sixO d 22)) (.cells #[.int .i64 0, .int .i64 0] 29)
      have hD0 := (At.new6 w d 22 rfl).past (.cells #[.int .i64 0, .int .i64 0] 29)
      have hR0 := At.new2 (w.alloc (sixO d 22)) 29
      rw [size_alloc] at hR0
      obtain ⟨e0, e1, e2, e3, e4, e5⟩ := hD0.six
      go_enter Try.func20, Try.ntmps20
      go_wp2_with fail
      refine (Hc.out _).mono ?_
      rintro e w1 ⟨rfl, hb1⟩
      have HR := Lib.hid (hR0.up hb1).drew
      have HD := Lib.hid (hD0.up hb1).drew
      have HB := Lib.hid (nx hB0 hb1).drew
      obtain ⟨W, hW⟩ : ∃ W, W = w1 := ⟨_, rfl⟩
      have hR := hR0.up hb1
      have hD := hD0.up hb1
      have hB := nx hB0 hb1
      rw [← hW] at hR hD hB ⊢
      clear e0 e1 e2 e3 e4 e5
      obtain ⟨e0, e1, e2, e3, e4, e5⟩ := hD.six
      clear hR0 hD0 hB0 hb1 hW
      go_wp2_with fail
      clear e0 e1 e2 e3 e4 e5
      refine wp_region_inc (I := fun L az w' => ∃ u3 u15 u16 u17 u18 u19 u20 u21 u22 : Value, az = frZ d w.heap.size u3 u15 u16 u17 u18 u19 u20 u21 u22 ∧ (L 0 = true → u15 = (.agg #[.int .i64 (d 0), .int .i64 (d 1), .int .i64 (d 2), .int .i64 (d 3), .int .i64 (d 4), .int .i64 (d 5)])) ∧ (L 1 = true → u16 = (.int .i64 ((s0 : Nat) : Int))) ∧ (L 2 = true → u17 = (.agg #[.int .i64 (d 0), .int .i64 (d 1), .int .i64 (d 2), .int .i64 (d 3), .int .i64 (d 4), .int .i64 (d 5)])) ∧ (L 3 = true → u18 = (.pointer (some ⟨w.heap.size, 5, none⟩))) ∧ (L 4 = true → u19 = (.int .i64 (d 5))) ∧ (L 5 = true → u20 = (.int .i64 ((v : Nat) : Int))) ∧ (L 6 = true → u21 = (.int .i64 ((6 - v : Nat) : Int))) ∧ (L 7 = true → u22 = (v2 x0 y0)) ∧ (L 9 = true → u3 = (.bool true)) ∧ Below w.heap.size W w' ∧ At w' w.heap.size 6 d ∧ At w' (w.heap.size + 1) 2 (fun k => if L 8 = true then (fr x0 y0) k else (fun _ => 0) k)) (by kernel_rfl) (by kernel_rfl) ?_ ?_ ?_
      · exact ⟨_, _, _, _, _, _, _, _, _, rfl, (fun h => by cases h), (fun h => by cases h), (fun h => by cases h), (fun h => by cases h), (fun h => by cases h), (fun h => by cases h), (fun h => by cases h), (fun h => by cases h), (fun h => by cases h), ((Below.refl _ W).drew), (hD).drew, At.congr ((hR).drew) (fun k _ => rfl)⟩
      · intro L az wz i hi hL hdep hcl hI
        obtain ⟨u3, u15, u16, u17, u18, u19, u20, u21, u22, rfl, e0, e1, e2, e3, e4, e5, e6, e7, e9, hB0, hK0, hT0⟩ := hI
        have hi' : i < 10 := hi
        clear hi
        obtain rfl | rfl | rfl | rfl | rfl | rfl | rfl | rfl | rfl | rfl : i = 0 ∨ i = 1 ∨ i = 2 ∨ i = 3 ∨ i = 4 ∨ i = 5 ∨ i = 6 ∨ i = 7 ∨ i = 8 ∨ i = 9 := by omega
        · obtain ⟨y0, y1, y2, y3, y4, y5⟩ := hK0.six
          have HB := Lib.hid hB0; clear hB0
          have HK0 := Lib.hid hK0; clear hK0
          refine wpOp_want rfl rfl ?_
          unfold frZ
          go_simp
          exact ⟨u3, (.agg #[.int .i64 (d 0), .int .i64 (d 1), .int .i64 (d 2), .int .i64 (d 3), .int .i64 (d 4), .int .i64 (d 5)]), u16, u17, u18, u19, u20, u21, u22, by first | rfl | (simp; done) | (simp [hv6, wv2]; done), fun _ => rfl, e1, e2, e3, e4, e5, e6, e7, e9, HB.out, HK0.out, hT0⟩
        · obtain rfl := e0 (hdep 0 (by kernel_rfl))
          have HB := Lib.hid hB0; clear hB0
          have HK0 := Lib.hid hK0; clear hK0
          refine wpOp_want rfl rfl ?_
          unfold frZ
          go_simp
          refine (Hsm.out _).mono ?_
          rintro e w9 ⟨rfl, hb⟩
          go_simp
          exact ⟨u3, (.agg #[.int .i64 (d 0), .int .i64 (d 1), .int .i64 (d 2), .int .i64 (d 3), .int .i64 (d 4), .int .i64 (d 5)]), (.int .i64 ((s0 : Nat) : Int)), u17, u18, u19, u20, u21, u22, by first | rfl | (simp; done) | (simp [hv6, wv2]; done), fun _ => rfl, fun _ => rfl, e2, e3, e4, e5, e6, e7, e9, HB.out.trans (hb.mono (Nat.le_trans hB.size HB.out.size)), HK0.out.up hb, At.congr (hT0.up hb) (fun k _ => rfl)⟩
        · obtain ⟨y0, y1, y2, y3, y4, y5⟩ := hK0.six
          have HB := Lib.hid hB0; clear hB0
          have HK0 := Lib.hid hK0; clear hK0
          refine wpOp_want rfl rfl ?_
          unfold frZ
          go_simp
          exact ⟨u3, u15, u16, (.agg #[.int .i64 (d 0), .int .i64 (d 1), .int .i64 (d 2), .int .i64 (d 3), .int .i64 (d 4), .int .i64 (d 5)]), u18, u19, u20, u21, u22, by first | rfl | (simp; done) | (simp [hv6, wv2]; done), e0, e1, fun _ => rfl, e3, e4, e5, e6, e7, e9, HB.out, HK0.out, hT0⟩
        · have HB := Lib.hid hB0; clear hB0
          have HK0 := Lib.hid hK0; clear hK0
          refine wpOp_want rfl rfl ?_
          unfold frZ
          go_simp
          exact ⟨u3, u15, u16, u17, (.pointer (some ⟨w.heap.size, 5, none⟩)), u19, u20, u21, u22, by first | rfl | (simp; done) | (simp [hv6, wv2]; done), e0, e1, e2, fun _ => rfl, e4, e5, e6, e7, e9, HB.out, HK0.out, hT0⟩
        · obtain rfl := e3 (hdep 3 (by kernel_rfl))
          obtain ⟨y0, y1, y2, y3, y4, y5⟩ := hK0.six
          have HB := Lib.hid hB0; clear hB0
          have HK0 := Lib.hid hK0; clear hK0
          refine wpOp_want rfl rfl ?_
          unfold frZ
          go_simp
          exact ⟨u3, u15, u16, u17, (.pointer (some ⟨w.heap.size, 5, none⟩)), (.int .i64 (d 5)), u20, u21, u22, by first | rfl | (simp; done) | (simp [hv6, wv2]; done), e0, e1, e2, fun _ => rfl, fun _ => rfl, e5, e6, e7, e9, HB.out, HK0.out, hT0⟩
        · obtain rfl := e2 (hdep 2 (by kernel_rfl))
          obtain rfl := e4 (hdep 4 (by kernel_rfl))
          have HB := Lib.hid hB0; clear hB0
          have HK0 := Lib.hid hK0; clear hK0
          refine wpOp_want rfl rfl ?_
          unfold frZ
          go_simp
          refine (Hw.out _).mono ?_
          rintro e w9 ⟨rfl, hb⟩
          go_simp
          exact ⟨u3, u15, u16, (.agg #[.int .i64 (d 0), .int .i64 (d 1), .int .i64 (d 2), .int .i64 (d 3), .int .i64 (d 4), .int .i64 (d 5)]), u18, (.int .i64 (d 5)), (.int .i64 ((v : Nat) : Int)), u21, u22, by first | rfl | (simp; done) | (simp [hv6, wv2]; done), e0, e1, fun _ => rfl, e3, fun _ => rfl, fun _ => rfl, e6, e7, e9, HB.out.trans (hb.mono (Nat.le_trans hB.size HB.out.size)), HK0.out.up hb, At.congr (hT0.up hb) (fun k _ => rfl)⟩
        · obtain rfl := e5 (hdep 5 (by kernel_rfl))
          have HB := Lib.hid hB0; clear hB0
          have HK0 := Lib.hid hK0; clear hK0
          refine wpOp_want rfl rfl ?_
          unfold frZ
          go_simp
          exact ⟨u3, u15, u16, u17, u18, u19, (.int .i64 ((v : Nat) : Int)), (.int .i64 ((6 - v : Nat) : Int)), u22, by first | rfl | (simp; done) | (simp [hv6, wv2]; done), e0, e1, e2, e3, e4, fun _ => rfl, fun _ => rfl, e7, e9, HB.out, HK0.out, hT0⟩
        · obtain rfl := e1 (hdep 1 (by kernel_rfl))
          obtain rfl := e6 (hdep 6 (by kernel_rfl))
          have HB := Lib.hid hB0; clear hB0
          have HK0 := Lib.hid hK0; clear hK0
          refine wpOp_want rfl rfl ?_
          unfold frZ
          go_simp
          refine (Hcut.out _).mono ?_
          rintro e w9 ⟨rfl, hb⟩
          go_simp
          exact ⟨u3, u15, (.int .i64 ((s0 : Nat) : Int)), u17, u18, u19, u20, (.int .i64 ((6 - v : Nat) : Int)), (v2 x0 y0), by first | rfl | (simp; done) | (simp [hv6, wv2]; done), e0, fun _ => rfl, e2, e3, e4, e5, fun _ => rfl, fun _ => rfl, e9, HB.out.trans (hb.mono (Nat.le_trans hB.size HB.out.size)), HK0.out.up hb, At.congr (hT0.up hb) (fun k _ => rfl)⟩
        · obtain rfl := e7 (hdep 7 (by kernel_rfl))
          have hq3' : At wz (w.heap.size + 1) 2 (fun _ => 0) := hT0.congr (fun k _ => by show (if L 8 = true then _ else _) = _; rw [hL]; rfl)
          have o0 := hq3'.cell 0 (by omega)
          have z0 := hq3'.free 0
          have o1 := hq3'.cell 1 (by omega)
          have z1 := hq3'.free 1
          have HB := Lib.hid hB0; clear hB0
          have HK0 := Lib.hid hK0; clear hK0
          refine wpOp_want rfl rfl ?_
          unfold frZ
          go_simp
          exact ⟨u3, u15, u16, u17, u18, u19, u20, u21, (v2 x0 y0), by first | rfl | (simp; done) | (simp [hv6, wv2]; done), e0, e1, e2, e3, e4, e5, e6, fun _ => rfl, e9, HB.out.trans (setCells_below (p := (w.heap.size + 1)) (B := w.heap.size) (Nat.le_succ _) (vals 2 (fr x0 y0)) 0), HK0.out.keep (p := (w.heap.size + 1)) (by omega) (vals 2 (fr x0 y0)) 0, At.congr (hq3'.stored (fr x0 y0)) (fun k _ => rfl)⟩
        · refine wpOp_want rfl rfl (Oper.wp_of_quiet (C := fun w' => w' = wz) (K := fun a' => a' = frZ d w.heap.size ((.bool true)) (u15) (u16) (u17) (u18) (u19) (u20) (u21) (u22)) rfl ?_ ?_)
          · intro a' w' hC' hK
            subst hK
            subst hC'
            exact ⟨(.bool true), u15, u16, u17, u18, u19, u20, u21, u22, by first | rfl | (simp; done) | (simp [hv6, wv2]; done), e0, e1, e2, e3, e4, e5, e6, e7, fun _ => rfl, hB0, hK0, hT0⟩
          · exact BigFrame.quiet_assign _ rfl rfl
      intro L az wz hL hcl hI
      obtain ⟨u3, u15, u16, u17, u18, u19, u20, u21, u22, rfl, e0, e1, e2, e3, e4, e5, e6, e7, e9, hB0, hK0, hT0⟩ := hI
      obtain rfl := e0 (hL 0 (by decide))
      obtain rfl := e1 (hL 1 (by decide))
      obtain rfl := e2 (hL 2 (by decide))
      obtain rfl := e3 (hL 3 (by decide))
      obtain rfl := e4 (hL 4 (by decide))
      obtain rfl := e5 (hL 5 (by decide))
      obtain rfl := e6 (hL 6 (by decide))
      obtain rfl := e7 (hL 7 (by decide))
      obtain rfl := e9 (hL 9 (by decide))
      have hT : At wz (w.heap.size + 1) 2 (fr x0 y0) := hT0.congr fun k hk => by rw [if_pos (hL 8 (by decide))]
      clear hT0
      clear hcl hL
      unfold frZ
      have hB := hB.trans hB0
      go_wp2_with fail
      exact ret_cell_tmp (b := w.heap.size + 1) (n := 2) (f := fr x0 y0) Try.results20 rfl rfl Try.underlying29 (by kernel_rfl) hT rfl ⟨rfl, hB⟩

set_option maxRecDepth 100000 in
set_option maxHeartbeats 4000000 in
theorem specBM_any (d : Nat → Int) (w : World) :
    Calls Try.prog 19 #[dv d] w fun e w' => e = .returned (.tuple #[v2 (bx d) (by' d), .bool (okM d)]) ∧ Below w.heap.size w w' := by
  have hc := fun w => l2Die_any d w
  unfold dv at hc
  have Hc := Lib.hid hc; clear hc
  cases hr : isDie d
  · rw [hr] at Hc
    have hok : okM d = false := by simp [okM, hr]
    rw [hok, (b_no hok).1, (b_no hok).2]
    clear hok
    clear hr
    unfold dv
    have hB0 := na (na (n0 w) (sixO d 22)) (.cells #[.int .i64 0, .int .i64 0] 29)
    have hD0 := (At.new6 w d 22 rfl).past (.cells #[.int .i64 0, .int .i64 0] 29)
    have hR0 := At.new2 (w.alloc (sixO d 22)) 29
    rw [size_alloc] at hR0
    obtain ⟨e0, e1, e2, e3, e4, e5⟩ := hD0.six
    go_enter Try.func19, Try.ntmps19
    go_wp2_with fail
    refine (Hc.out _).mono ?_
    rintro e w1 ⟨rfl, hb1⟩
    have hR1 := hR0.up hb1
    have hD1 := hD0.up hb1
    have hB1 := nx hB0 hb1
    clear e0 e1 e2 e3 e4 e5
    have hRX := hR1
    have c0 := hRX.cell 0 (by omega)
    have c1 := hRX.cell 1 (by omega)
    have z0 := hRX.free 0
    have z1 := hRX.free 1
    go_wp2_with fail
    refine ret_cell_tmp (b := w.heap.size + 1) (n := 2) (f := fr 0 0) Try.results19 rfl rfl Try.underlying29 (by kernel_rfl) (fin2' hRX _ _) rfl ⟨rfl, ?_⟩
    exact (hB1.setCell (p := ⟨w.heap.size + 1, 0, none⟩) (Nat.le_succ _) _).setCell (p := ⟨w.heap.size + 1, 1, none⟩) (Nat.le_succ _) _
  · rw [hr] at Hc
    by_cases h0 : d 0 = d 5
    · have hb0 : (d 0 == d 5) = true := by simpa using h0
      have hok : okM d = false := by simp [okM, hr, hb0]
      rw [hok, (b_no hok).1, (b_no hok).2]
      clear hok
      clear hr h0
      unfold dv
      have hB0 := na (na (n0 w) (sixO d 22)) (.cells #[.int .i64 0, .int .i64 0] 29)
      have hD0 := (At.new6 w d 22 rfl).past (.cells #[.int .i64 0, .int .i64 0] 29)
      have hR0 := At.new2 (w.alloc (sixO d 22)) 29
      rw [size_alloc] at hR0
      obtain ⟨e0, e1, e2, e3, e4, e5⟩ := hD0.six
      go_enter Try.func19, Try.ntmps19
      go_wp2_with fail
      refine (Hc.out _).mono ?_
      rintro e w1 ⟨rfl, hb1⟩
      have hR1 := hR0.up hb1
      have hD1 := hD0.up hb1
      have hB1 := nx hB0 hb1
      clear e0 e1 e2 e3 e4 e5
      obtain ⟨e0, e1, e2, e3, e4, e5⟩ := hD1.six
      have hRX := hR1
      have c0 := hRX.cell 0 (by omega)
      have c1 := hRX.cell 1 (by omega)
      have z0 := hRX.free 0
      have z1 := hRX.free 1
      go_wp2_with fail
      refine ret_cell_tmp (b := w.heap.size + 1) (n := 2) (f := fr 0 0) Try.results19 rfl rfl Try.underlying29 (by kernel_rfl) (fin2' hRX _ _) rfl ⟨rfl, ?_⟩
      exact (hB1.setCell (p := ⟨w.heap.size + 1, 0, none⟩) (Nat.le_succ _) _).setCell (p := ⟨w.heap.size + 1, 1, none⟩) (Nat.le_succ _) _
    · have hb0 : (d 0 == d 5) = false := by simpa using h0
      have hok : okM d = true := by simp [okM, hr, hb0]
      rw [hok, (b_yes hok).1, (b_yes hok).2]
      clear hok
      have hF := faces_die hr
      have hwl := wgt_low (x := d 5) h0
      have hsl := sumF_le (fun j hj => (hF j hj).2.2) 6 (Nat.le_refl _)
      have hw := fun w => specW_any d (d 5) w
      unfold dv at hw
      have Hw := Lib.hid hw; clear hw
      have Hcut : Hid (∀ w, Calls Try.prog 54 #[.int .i64 (sumF (face d) 6 : Nat), .int .i64 (6 - wgt d (d 5) 6 : Nat)] w fun e w' => e = .returned (v2 (num (sumF (face d) 6) (6 - wgt d (d 5) 6) : Nat) (den (sumF (face d) 6) (6 - wgt d (d 5) 6) : Nat)) ∧ Below w.heap.size w w') := fun w => FracL.cutL _ _ w (by omega) (by omega) (by omega)
      generalize num (sumF (face d) 6) (6 - wgt d (d 5) 6) = x0 at *
      generalize den (sumF (face d) 6) (6 - wgt d (d 5) 6) = y0 at *
      have hv6 : (6 : Int) - (wgt d (d 5) 6 : Nat) = (6 - wgt d (d 5) 6 : Nat) := by omega
      clear hr h0
      have HF := Lib.hid hF; clear hF
      have Hsl := Lib.hid (sumF_le (fun j hj => (HF.out j hj).2.2))
      generalize wgt d (d 5) 6 = v at *
      have hv7 : (v : Int) ≤ 6 := by omega
      have wv : wrap64 (6 - (v : Int)) = ((6 - v : Nat) : Int) := by unfold wrap64; omega
      have wv2 : IntKind.i64.wrap ((6 - v : Nat) : Int) = ((6 - v : Nat) : Int) := FracL.wrap_sameL _ (by omega) (by omega)
      unfold dv
      have hB0 := na (na (n0 w) (sixO d 22)) (.cells #[.int .i64 0, .int .i64 0] 29)
      have hD0 := (At.new6 w d 22 rfl).past (.cells #[.int .i64 0, .int .i64 0] 29)
      have hR0 := At.new2 (w.alloc (sixO d 22)) 29
      rw [size_alloc] at hR0
      obtain ⟨e0, e1, e2, e3, e4, e5⟩ := hD0.six
      go_enter Try.func19, Try.ntmps19
      go_wp2_with fail
      refine (Hc.out _).mono ?_
      rintro e w1 ⟨rfl, hb1⟩
      have hR1 := hR0.up hb1
      have hD1 := hD0.up hb1
      have hB1 := nx hB0 hb1
      clear e0 e1 e2 e3 e4 e5
      obtain ⟨e0, e1, e2, e3, e4, e5⟩ := hD1.six
      go_wp2_with fail
      clear e0 e1 e2 e3 e4 e5
      clear hR0 hD0 hB0 hb1
      go_loopw [4, 5] (fun sv iv wr => ∃ i : Nat, i ≤ 6 ∧ iv = .int .i64 i ∧ sv = .int .i64 (sumF (face d) i : Nat) ∧ At wr w.heap.size 6 d ∧ At wr (w.heap.size + 1) 2 (fun _ => 0) ∧ Below w.heap.size w wr) (fun _ iv _ => 6 - (intOf iv).toNat)
      case atStart => exact ⟨0, by omega, rfl, rfl, hD1, hR1, hB1⟩
      case round =>
        clear hD1 hR1 hB1
        obtain ⟨i, hi, rfl, rfl, hD1, hR1, hB1⟩ := hrel
        by_cases hlt : i < 6
        · have ci := hD1.cell i hlt
          obtain ⟨f1, _, f3⟩ := HF.out i hlt
          rw [f1] at ci
          have h1 := Hsl.out i hi
          have E1 : Hid (sumF (face d) (i + 1) = sumF (face d) i + face d i) := rfl
          generalize sumF (face d) i = q at *
          generalize face d i = r at *
          clear f1
          go_wp2_with fail
          go_roundw
          case rel => exact ⟨i + 1, by omega, by go_num, by rw [E1.out]; go_num, hD1, hR1, hB1⟩
          case measure => simp [intOf]; omega
        · obtain rfl : i = 6 := by omega
          obtain ⟨e0, e1, e2, e3, e4, e5⟩ := hD1.six
          go_wp2_with fail
          refine (Hw.out _).mono ?_
          rintro e w2 ⟨rfl, hb2⟩
          have hR2 := hR1.up hb2
          have hD2 := hD1.up hb2
          have hB2 := nx hB1 hb2
          clear e0 e1 e2 e3 e4 e5
          go_wp2_with fail
          refine (Hcut.out _).mono ?_
          rintro e w3 ⟨rfl, hb3⟩
          have hR3 := hR2.up hb3
          have hD3 := hD2.up hb3
          have hB3 := nx hB2 hb3
          have hRX := hR3
          have c0 := hRX.cell 0 (by omega)
          have c1 := hRX.cell 1 (by omega)
          have z0 := hRX.free 0
          have z1 := hRX.free 1
          go_wp2_with fail
          refine ret_cell_tmp (b := w.heap.size + 1) (n := 2) (f := fr x0 y0) Try.results19 rfl rfl Try.underlying29 (by kernel_rfl) (fin2' hRX _ _) rfl ⟨rfl, ?_⟩
          exact (hB3.setCell (p := ⟨w.heap.size + 1, 0, none⟩) (Nat.le_succ _) _).setCell (p := ⟨w.heap.size + 1, 1, none⟩) (Nat.le_succ _) _


end BMean
end Go.Proofs.Ytdodokeebmdceaa
