/-
  ChanceWithin, both sides.
-/
import Derived.Test.YtdodokeebmdceaaRows
import Derived.Test.YtdodokeebmdceaaArr
import Derived.Test.YtdodokeebmdceaaAnyR
import Derived.Test.YtdodokeebmdceaaDieW
import Derived.Test.YtdodokeebmdceaaSortW
import Derived.Test.YtdodokeebmdceaaFracW
import Derived.Test.YtdodokeebmdceaaFracL
import Derived.Test.YtdodokeebmdceaaCutW
import Derived.Test.YtdodokeebmdceaaAll6
import Derived.Test.YtdodokeebmdceaaAllL
import Derived.Test.YtdodokeebmdceaaOwnL
import Derived.Test.YtdodokeebmdceaaFracM
import Derived.Test.YtdodokeebmdceaaWgtM
import Derived.Test.YtdodokeebmdceaaWgtW
import Derived.Test.YtdodokeebmdceaaWaitW
import Derived.Test.YtdodokeebmdceaaBurI
import Derived.Test.YtdodokeebmdceaaChW
import Derived.Test.YtdodokeebmdceaaOpenD
import Derived.WalkKit
import Derived.WalkLawsBesides
import Derived.WalkSpells
import Derived.ProofKit
import Derived.OpenShut
import Derived.Deep.RegionWith
import Derived.Deep.QuietTactic
import Derived.BigQuiet
namespace Go.Proofs.Ytdodokeebmdceaa
open Go.ChangeShapes Go.WideShapes Go.ChangeAt Go.RowKit
open Go.ChangeMaps (open_string shut_string)

namespace ChV
open Dice Arr DieW SortW FracW CutW All6 AllL OwnL FracM WgtM WgtW AnyR WaitW ChW

def frC (d : Nat → Int) (x : Int) (n h : Nat) (u7 u13 u14 u15 u16 u17 u18 u19 u20 u21 u22 u23 u24 : Value) : Act := ⟨#[(.agg #[.int .i64 (d 0), .int .i64 (d 1), .int .i64 (d 2), .int .i64 (d 3), .int .i64 (d 4), .int .i64 (d 5)]), .int .i64 x, .int .i64 (n : Int), .pointer (some ⟨h, 0, none⟩), undef, undef, .pointer (some ⟨h + 1, 0, none⟩), u7, (.agg #[.int .i64 (d 0), .int .i64 (d 1), .int .i64 (d 2), .int .i64 (d 3), .int .i64 (d 4), .int .i64 (d 5)]), .int .i64 (n : Int), .bool true, .bool false, undef, u13, u14, u15, u16, u17, u18, u19, u20, u21, u22, u23, u24], []⟩

set_option maxRecDepth 100000 in
set_option maxHeartbeats 4000000 in
theorem implCW_any (d : Nat → Int) (x n : Int) (w : World) :
    Calls Try.prog 25 #[dv d, .int .i64 x, .int .i64 n] w fun e w' => e = .returned (.tuple #[v2 (cx d x n) (cy d x n), .bool (okC d n)]) ∧ Below w.heap.size w w' := by
  have hch := fun (b : Nat) (w : World) (h1 : w.cell? ⟨b, 0, none⟩ = some (.int .i64 x)) (h2 : b < w.heap.size) => implCh_any d x n b w h1 h2
  generalize cx d x n = x0 at *
  generalize cy d x n = y0 at *
  generalize okC d n = z0 at *
  unfold dv at hch
  have Hch := Lib.hid hch; clear hch
  have hmf : ∀ (fn : Fn) (first cap : Array Value) (w : World), (Instr.makeFunc fn first cap).run Try.prog w = .ok (.func fn first cap) w := fun _ _ _ _ => rfl
  unfold dv
  have hB0 := na (na (na (n0 w) (sixO d 22)) (.cells #[.int .i64 x] 3)) (.cells #[.int .i64 0, .int .i64 0] 29)
  have hD0 := ((At.new6 w d 22 rfl).past (.cells #[.int .i64 x] 3)).past (.cells #[.int .i64 0, .int .i64 0] 29)
  have hR0 := At.new2 ((w.alloc (sixO d 22)).alloc (.cells #[.int .i64 x] 3)) 29
  have hcn : (((w.alloc (sixO d 22)).alloc (.cells #[.int .i64 x] 3)).alloc (.cells #[.int .i64 0, .int .i64 0] 29)).cell? ⟨w.heap.size + 1, 0, none⟩ = some (.int .i64 x) := by
    have h1 := cell_one (w.alloc (sixO d 22)) (.int .i64 x) 3
    rw [size_alloc] at h1
    have h2 := (na (n0 ((w.alloc (sixO d 22)).alloc (.cells #[.int .i64 x] 3))) (.cells #[.int .i64 0, .int .i64 0] 29)).cell (p := ⟨w.heap.size + 1, 0, none⟩) (by show w.heap.size + 1 < _; rw [size_alloc, size_alloc]; omega)
    exact h2.trans h1
  have hlt : w.heap.size + 1 < (((w.alloc (sixO d 22)).alloc (.cells #[.int .i64 x] 3)).alloc (.cells #[.int .i64 0, .int .i64 0] 29)).heap.size := by rw [size_alloc, size_alloc, size_alloc]; omega
  rw [size_alloc, size_alloc] at hR0
  obtain ⟨e0, e1, e2, e3, e4, e5⟩ := hD0.six
  go_enter Try.func25, Try.ntmps25
  go_wp2_with fail
  refine (Hch.out _ _ hcn hlt).mono ?_
  rintro e w1 ⟨rfl, hb1⟩
  have hRX := hR0.up hb1
  have hB1 := nx hB0 hb1
  clear e0 e1 e2 e3 e4 e5 hcn hlt
  have c0 := hRX.cell 0 (by omega)
  have c1 := hRX.cell 1 (by omega)
  have z0 := hRX.free 0
  have z1 := hRX.free 1
  go_wp2_with fail
  refine ret_cell_tmp (b := w.heap.size + 1 + 1) (n := 2) (f := fr x0 y0) Try.results25 rfl rfl Try.underlying29 (by kernel_rfl) (fin2' hRX _ _) rfl ⟨rfl, ?_⟩
  exact (hB1.setCell (p := ⟨w.heap.size + 1 + 1, 0, none⟩) (by show w.heap.size ≤ w.heap.size + 1 + 1; omega) _).setCell (p := ⟨w.heap.size + 1 + 1, 1, none⟩) (by show w.heap.size ≤ w.heap.size + 1 + 1; omega) _

set_option maxRecDepth 100000 in
set_option maxHeartbeats 2000000 in
theorem power_any (q n : Nat) (w : World) (hq : q ≤ 6) (hn : n ≤ 12) :
    Calls Try.prog 59 #[.int .i64 q, .int .i64 n] w fun e w' => e = .returned (.int .i64 (q ^ n : Nat)) ∧ Below w.heap.size w w' := by
  have Hb : Hid (∀ i, i ≤ 12 → q ^ i ≤ 2176782336) := fun i hi => Nat.le_trans (Nat.pow_le_pow_left hq i) (Nat.le_trans (Nat.pow_le_pow_right (by omega) hi) (by decide))
  go_enter Try.func59, Try.ntmps59
  go_wp2_with fail
  go_loop [5, 6] (fun sv iv => ∃ i : Nat, i ≤ n ∧ iv = .int .i64 i ∧ sv = .int .i64 (q ^ i : Nat)) (fun _ iv => n - (intOf iv).toNat)
  case atStart => exact ⟨0, by omega, rfl, rfl⟩
  case round =>
    obtain ⟨i, hi, rfl, rfl⟩ := hrel
    by_cases hlt : i < n
    · have hit : decide ((i : Int) < (n : Int)) = true := decide_eq_true (by omega)
      have hitN : decide (i < n) = true := decide_eq_true hlt
      have h1 := Hb.out i (by omega)
      have h2 := Hb.out (i + 1) (by omega)
      have hs : Hid (q ^ (i + 1) = q ^ i * q) := Nat.pow_succ _ _
      obtain ⟨p, hp⟩ : ∃ p, p = q ^ (i + 1) := ⟨_, rfl⟩
      have hm : ((q ^ i : Nat) : Int) * (q : Int) = (p : Int) := by rw [hp, hs.out]; push_cast; rfl
      rw [← hp] at h2
      have Hp := Lib.hid hp; clear hp hs
      generalize ((q ^ i : Nat) : Int) = u at *
      clear h1
      go_wp2_with fail
      go_round
      case rel => exact ⟨i + 1, by omega, by go_num, by rw [← Hp.out]⟩
      case measure => simp [intOf]; omega
    · obtain rfl : i = n := by omega
      have hit : decide ((i : Int) < (i : Int)) = false := decide_eq_false (by omega)
      go_wp2_with fail
      go_ret
      exact ⟨rfl, n0 _⟩

set_option maxHeartbeats 2000000 in
theorem rolls_any (d : Nat → Int) (n : Int) (w : World) :
    Calls Try.prog 58 #[dv d, .int .i64 n] w fun e w' => e = .returned (.bool (okC d n)) ∧ Below w.heap.size w w' := by
  have hc := l2Die_any d
  unfold dv at hc
  have Hc := Lib.hid hc; clear hc
  have Hin := Lib.hid (fun w => l1In_any n 0 12 w)
  unfold dv
  have hB0 := na (n0 w) (sixO d 22)
  have hD0 := At.new6 w d 22 rfl
  obtain ⟨e0, e1, e2, e3, e4, e5⟩ := hD0.six
  cases hd : isDie d
  · rw [hd] at Hc
    rw [c_1 hd]
    clear hd
    go_enter Try.func58, Try.ntmps58
    go_wp2_with fail
    refine (Hc.out _).mono ?_
    rintro e w1 ⟨rfl, hb1⟩
    go_wp2_with fail
    go_ret
    exact ⟨rfl, nx hB0 hb1⟩
  · rw [hd] at Hc
    have hok : okC d n = decide (0 ≤ n ∧ n ≤ 12) := by simp only [okC, hd, Bool.true_and]
    rw [hok]
    clear hd hok
    go_enter Try.func58, Try.ntmps58
    go_wp2_with fail
    refine (Hc.out _).mono ?_
    rintro e w1 ⟨rfl, hb1⟩
    go_wp2_with fail
    refine (Hin.out _).mono ?_
    rintro e w2 ⟨rfl, hw2⟩
    have hw2 := hw2.symm
    subst hw2
    go_wp2_with fail
    go_ret
    exact ⟨by rw [Bool.decide_and]; rfl, nx hB0 hb1⟩

set_option maxRecDepth 100000 in
set_option maxHeartbeats 4000000 in
theorem specCW_any (d : Nat → Int) (x n : Int) (w : World) :
    Calls Try.prog 24 #[dv d, .int .i64 x, .int .i64 n] w fun e w' => e = .returned (.tuple #[v2 (cx d x n) (cy d x n), .bool (okC d n)]) ∧ Below w.heap.size w w' := by
  have hc := fun w => rolls_any d n w
  unfold dv at hc
  have Hc := Lib.hid hc; clear hc
  cases hok : okC d n
  · rw [hok] at Hc
    rw [(c_no hok).1, (c_no hok).2]
    clear hok
    unfold dv
    have hB0 := na (na (n0 w) (sixO d 22)) (.cells #[.int .i64 0, .int .i64 0] 29)
    have hD0 := (At.new6 w d 22 rfl).past (.cells #[.int .i64 0, .int .i64 0] 29)
    have hR0 := At.new2 (w.alloc (sixO d 22)) 29
    rw [size_alloc] at hR0
    obtain ⟨e0, e1, e2, e3, e4, e5⟩ := hD0.six
    go_enter Try.func24, Try.ntmps24
    go_wp2_with fail
    refine (Hc.out _).mono ?_
    rintro e w1 ⟨rfl, hb1⟩
    have hR1 := hR0.up hb1
    have hD1 := hD0.up hb1
    have hB1 := nx hB0 hb1
    clear e0 e1 e2 e3 e4 e5
    have hRX := hR1
    have c0 := hRX.cell 0 (by omega)
    have c1 := hRX.cell 1 (by omega)
    have z0 := hRX.free 0
    have z1 := hRX.free 1
    go_wp2_with fail
    refine ret_cell_tmp (b := w.heap.size + 1) (n := 2) (f := fr 0 0) Try.results24 rfl rfl Try.underlying29 (by kernel_rfl) (fin2' hRX _ _) rfl ⟨rfl, ?_⟩
    exact (hB1.setCell (p := ⟨w.heap.size + 1, 0, none⟩) (Nat.le_succ _) _).setCell (p := ⟨w.heap.size + 1, 1, none⟩) (Nat.le_succ _) _
  rw [hok] at Hc
  have h12 : 0 ≤ n ∧ n ≤ 12 := by
    simp only [okC, Bool.and_eq_true, decide_eq_true_eq] at hok
    exact hok.2
  obtain ⟨n, rfl⟩ : ∃ m : Nat, n = m := ⟨n.toNat, by omega⟩
  rw [(c_yes hok).1, (c_yes hok).2]
  clear hok
  have hn12 : n ≤ 12 := by omega
  have hWl := wgt_le d x 6
  have hw := fun w => specW_any d x w
  unfold dv at hw
  have Hw := Lib.hid hw; clear hw
  generalize wgt d x 6 = v at *
  obtain ⟨q, hq⟩ : ∃ q, q = 6 - v := ⟨_, rfl⟩
  rw [← hq]
  have hqv : q + v = 6 := by omega
  have hbd := cc_bound hqv hn12
  have hce := cc_eq hqv n
  have hall : ∀ w, Calls Try.prog 49 #[.int .i64 (n : Nat)] w fun e w' => e = .returned (.int .i64 (6 ^ n : Nat)) ∧ Below w.heap.size w w' := fun w => by
    refine (l2AllL n w (by omega)).mono ?_
    rintro e w' ⟨rfl, rfl⟩
    exact ⟨rfl, n0 _⟩
  have hpw := fun w => power_any q n w (by omega) hn12
  have hcut : ∀ w, Calls Try.prog 54 #[.int .i64 (cc q v n : Nat), .int .i64 (6 ^ n : Nat)] w fun e w' => e = .returned (v2 (num (cc q v n) (6 ^ n) : Nat) (den (cc q v n) (6 ^ n) : Nat)) ∧ Below w.heap.size w w' := fun w => FracL.cutL _ _ w (by omega) (by omega) hbd.2.2.2
  generalize num (cc q v n) (6 ^ n) = x0 at *
  generalize den (cc q v n) (6 ^ n) = y0 at *
  generalize cc q v n = C at *
  generalize 6 ^ n = A6 at *
  generalize q ^ n = Q at *
  have Hall := Lib.hid hall; clear hall
  have Hpw := Lib.hid hpw; clear hpw
  have Hcut := Lib.hid hcut; clear hcut
  have hs1 : (6 : Int) - (v : Int) = (q : Int) := by omega
  have hs2 : (A6 : Int) - (Q : Int) = (C : Int) := by omega
  have Wq := Lib.hid (FracL.wrap_sameL (q : Int) (by omega) (by omega))
  have Wc := Lib.hid (FracL.wrap_sameL (C : Int) (by omega) (by omega))
  clear hbd hce hq hqv h12 hWl
  have wq := Wq.out
  have wc := Wc.out
  clear Wq Wc
  unfold dv
  have hB0 := na (na (n0 w) (sixO d 22)) (.cells #[.int .i64 0, .int .i64 0] 29)
  have hD0 := (At.new6 w d 22 rfl).past (.cells #[.int .i64 0, .int .i64 0] 29)
  have hR0 := At.new2 (w.alloc (sixO d 22)) 29
  rw [size_alloc] at hR0
  obtain ⟨e0, e1, e2, e3, e4, e5⟩ := hD0.six
  go_enter Try.func24, Try.ntmps24
  go_wp2_with fail
  refine (Hc.out _).mono ?_
  rintro e w1 ⟨rfl, hb1⟩
  have hR1 := hR0.up hb1
  have hD1 := hD0.up hb1
  have hB1 := nx hB0 hb1
  obtain ⟨W, hW⟩ : ∃ W, W = w1 := ⟨_, rfl⟩
  have hR := hR1
  have hD := hD1
  have hB := hB1
  rw [← hW] at hR hD hB ⊢
  clear hW hR0 hD0 hB0 hR1 hD1 hB1 hb1 e0 e1 e2 e3 e4 e5
  go_wp2_with fail
  refine wp_region_inc (I := fun L az w' => ∃ u7 u13 u14 u15 u16 u17 u18 u19 u20 u21 u22 u23 u24 : Value, az = frC d x n w.heap.size u7 u13 u14 u15 u16 u17 u18 u19 u20 u21 u22 u23 u24 ∧ (L 0 = true → u13 = (.int .i64 (n : Int))) ∧ (L 1 = true → u14 = (.int .i64 ((A6 : Nat) : Int))) ∧ (L 2 = true → u15 = (.agg #[.int .i64 (d 0), .int .i64 (d 1), .int .i64 (d 2), .int .i64 (d 3), .int .i64 (d 4), .int .i64 (d 5)])) ∧ (L 3 = true → u16 = (.int .i64 x)) ∧ (L 4 = true → u17 = (.int .i64 ((v : Nat) : Int))) ∧ (L 5 = true → u18 = (.int .i64 ((q : Nat) : Int))) ∧ (L 6 = true → u19 = (.int .i64 (n : Int))) ∧ (L 7 = true → u20 = (.int .i64 ((Q : Nat) : Int))) ∧ (L 8 = true → u21 = (.int .i64 ((C : Nat) : Int))) ∧ (L 9 = true → u22 = (.int .i64 (n : Int))) ∧ (L 10 = true → u23 = (.int .i64 ((A6 : Nat) : Int))) ∧ (L 11 = true → u24 = (v2 x0 y0)) ∧ (L 13 = true → u7 = (.bool true)) ∧ Below w.heap.size W w' ∧ At w' w.heap.size 6 d ∧ At w' (w.heap.size + 1) 2 (fun k => if L 12 = true then (fr x0 y0) k else (fun _ => 0) k)) (by kernel_rfl) (by kernel_rfl) ?_ ?_ ?_
  · exact ⟨_, _, _, _, _, _, _, _, _, _, _, _, _, rfl, (fun h => by cases h), (fun h => by cases h), (fun h => by cases h), (fun h => by cases h), (fun h => by cases h), (fun h => by cases h), (fun h => by cases h), (fun h => by cases h), (fun h => by cases h), (fun h => by cases h), (fun h => by cases h), (fun h => by cases h), (fun h => by cases h), ((Below.refl _ W).drew), (hD).drew, At.congr ((hR).drew) (fun k _ => rfl)⟩
  · intro L az wz i hi hL hdep hcl hI
    obtain ⟨u7, u13, u14, u15, u16, u17, u18, u19, u20, u21, u22, u23, u24, rfl, e0, e1, e2, e3, e4, e5, e6, e7, e8, e9, e10, e11, e13, hB0, hK0, hT0⟩ := hI
    have hi' : i < 14 := hi
    clear hi
    obtain rfl | rfl | rfl | rfl | rfl | rfl | rfl | rfl | rfl | rfl | rfl | rfl | rfl | rfl : i = 0 ∨ i = 1 ∨ i = 2 ∨ i = 3 ∨ i = 4 ∨ i = 5 ∨ i = 6 ∨ i = 7 ∨ i = 8 ∨ i = 9 ∨ i = 10 ∨ i = 11 ∨ i = 12 ∨ i = 13 := by omega
    · refine wpOp_want rfl rfl (Oper.wp_of_quiet (C := fun w' => w' = wz) (K := fun a' => a' = frC d x n w.heap.size (u7) ((.int .i64 (n : Int))) (u14) (u15) (u16) (u17) (u18) (u19) (u20) (u21) (u22) (u23) (u24)) rfl ?_ ?_)
      · intro a' w' hC' hK
        subst hK
        subst hC'
        exact ⟨u7, (.int .i64 (n : Int)), u14, u15, u16, u17, u18, u19, u20, u21, u22, u23, u24, by first | rfl | (simp; done) | (simp [hs1, hs2, wq, wc]; done), fun _ => rfl, e1, e2, e3, e4, e5, e6, e7, e8, e9, e10, e11, e13, hB0, hK0, hT0⟩
      · exact BigFrame.quiet_move _ rfl rfl
    · obtain rfl := e0 (hdep 0 (by kernel_rfl))
      have HB := Lib.hid hB0; clear hB0
      have HK0 := Lib.hid hK0; clear hK0
      refine wpOp_want rfl rfl ?_
      unfold frC
      go_simp
      refine (Hall.out _).mono ?_
      rintro e w9 ⟨rfl, hb⟩
      go_simp
      exact ⟨u7, (.int .i64 (n : Int)), (.int .i64 ((A6 : Nat) : Int)), u15, u16, u17, u18, u19, u20, u21, u22, u23, u24, by first | rfl | (simp; done) | (simp [hs1, hs2, wq, wc]; done), fun _ => rfl, fun _ => rfl, e2, e3, e4, e5, e6, e7, e8, e9, e10, e11, e13, HB.out.trans (hb.mono (Nat.le_trans hB.size HB.out.size)), HK0.out.up hb, At.congr (hT0.up hb) (fun k _ => rfl)⟩
    · obtain ⟨y0, y1, y2, y3, y4, y5⟩ := hK0.six
      have HB := Lib.hid hB0; clear hB0
      have HK0 := Lib.hid hK0; clear hK0
      refine wpOp_want rfl rfl ?_
      unfold frC
      go_simp
      exact ⟨u7, u13, u14, (.agg #[.int .i64 (d 0), .int .i64 (d 1), .int .i64 (d 2), .int .i64 (d 3), .int .i64 (d 4), .int .i64 (d 5)]), u16, u17, u18, u19, u20, u21, u22, u23, u24, by first | rfl | (simp; done) | (simp [hs1, hs2, wq, wc]; done), e0, e1, fun _ => rfl, e3, e4, e5, e6, e7, e8, e9, e10, e11, e13, HB.out, HK0.out, hT0⟩
    · refine wpOp_want rfl rfl (Oper.wp_of_quiet (C := fun w' => w' = wz) (K := fun a' => a' = frC d x n w.heap.size (u7) (u13) (u14) (u15) ((.int .i64 x)) (u17) (u18) (u19) (u20) (u21) (u22) (u23) (u24)) rfl ?_ ?_)
      · intro a' w' hC' hK
        subst hK
        subst hC'
        exact ⟨u7, u13, u14, u15, (.int .i64 x), u17, u18, u19, u20, u21, u22, u23, u24, by first | rfl | (simp; done) | (simp [hs1, hs2, wq, wc]; done), e0, e1, e2, fun _ => rfl, e4, e5, e6, e7, e8, e9, e10, e11, e13, hB0, hK0, hT0⟩
      · exact BigFrame.quiet_move _ rfl rfl
    · obtain rfl := e2 (hdep 2 (by kernel_rfl))
      obtain rfl := e3 (hdep 3 (by kernel_rfl))
      have HB := Lib.hid hB0; clear hB0
      have HK0 := Lib.hid hK0; clear hK0
      refine wpOp_want rfl rfl ?_
      unfold frC
      go_simp
      refine (Hw.out _).mono ?_
      rintro e w9 ⟨rfl, hb⟩
      go_simp
      exact ⟨u7, u13, u14, (.agg #[.int .i64 (d 0), .int .i64 (d 1), .int .i64 (d 2), .int .i64 (d 3), .int .i64 (d 4), .int .i64 (d 5)]), (.int .i64 x), (.int .i64 ((v : Nat) : Int)), u18, u19, u20, u21, u22, u23, u24, by first | rfl | (simp; done) | (simp [hs1, hs2, wq, wc]; done), e0, e1, fun _ => rfl, fun _ => rfl, fun _ => rfl, e5, e6, e7, e8, e9, e10, e11, e13, HB.out.trans (hb.mono (Nat.le_trans hB.size HB.out.size)), HK0.out.up hb, At.congr (hT0.up hb) (fun k _ => rfl)⟩
    · obtain rfl := e4 (hdep 4 (by kernel_rfl))
      have HB := Lib.hid hB0; clear hB0
      have HK0 := Lib.hid hK0; clear hK0
      refine wpOp_want rfl rfl ?_
      unfold frC
      go_simp
      exact ⟨u7, u13, u14, u15, u16, (.int .i64 ((v : Nat) : Int)), (.int .i64 ((q : Nat) : Int)), u19, u20, u21, u22, u23, u24, by first | rfl | (simp; done) | (simp [hs1, hs2, wq, wc]; done), e0, e1, e2, e3, fun _ => rfl, fun _ => rfl, e6, e7, e8, e9, e10, e11, e13, HB.out, HK0.out, hT0⟩
    · refine wpOp_want rfl rfl (Oper.wp_of_quiet (C := fun w' => w' = wz) (K := fun a' => a' = frC d x n w.heap.size (u7) (u13) (u14) (u15) (u16) (u17) (u18) ((.int .i64 (n : Int))) (u20) (u21) (u22) (u23) (u24)) rfl ?_ ?_)
      · intro a' w' hC' hK
        subst hK
        subst hC'
        exact ⟨u7, u13, u14, u15, u16, u17, u18, (.int .i64 (n : Int)), u20, u21, u22, u23, u24, by first | rfl | (simp; done) | (simp [hs1, hs2, wq, wc]; done), e0, e1, e2, e3, e4, e5, fun _ => rfl, e7, e8, e9, e10, e11, e13, hB0, hK0, hT0⟩
      · exact BigFrame.quiet_move _ rfl rfl
    · obtain rfl := e5 (hdep 5 (by kernel_rfl))
      obtain rfl := e6 (hdep 6 (by kernel_rfl))
      have HB := Lib.hid hB0; clear hB0
      have HK0 := Lib.hid hK0; clear hK0
      refine wpOp_want rfl rfl ?_
      unfold frC
      go_simp
      refine (Hpw.out _).mono ?_
      rintro e w9 ⟨rfl, hb⟩
      go_simp
      exact ⟨u7, u13, u14, u15, u16, u17, (.int .i64 ((q : Nat) : Int)), (.int .i64 (n : Int)), (.int .i64 ((Q : Nat) : Int)), u21, u22, u23, u24, by first | rfl | (simp; done) | (simp [hs1, hs2, wq, wc]; done), e0, e1, e2, e3, e4, fun _ => rfl, fun _ => rfl, fun _ => rfl, e8, e9, e10, e11, e13, HB.out.trans (hb.mono (Nat.le_trans hB.size HB.out.size)), HK0.out.up hb, At.congr (hT0.up hb) (fun k _ => rfl)⟩
    · obtain rfl := e1 (hdep 1 (by kernel_rfl))
      obtain rfl := e7 (hdep 7 (by kernel_rfl))
      have HB := Lib.hid hB0; clear hB0
      have HK0 := Lib.hid hK0; clear hK0
      refine wpOp_want rfl rfl ?_
      unfold frC
      go_simp
      exact ⟨u7, u13, (.int .i64 ((A6 : Nat) : Int)), u15, u16, u17, u18, u19, (.int .i64 ((Q : Nat) : Int)), (.int .i64 ((C : Nat) : Int)), u22, u23, u24, by first | rfl | (simp; done) | (simp [hs1, hs2, wq, wc]; done), e0, fun _ => rfl, e2, e3, e4, e5, e6, fun _ => rfl, fun _ => rfl, e9, e10, e11, e13, HB.out, HK0.out, hT0⟩
    · refine wpOp_want rfl rfl (Oper.wp_of_quiet (C := fun w' => w' = wz) (K := fun a' => a' = frC d x n w.heap.size (u7) (u13) (u14) (u15) (u16) (u17) (u18) (u19) (u20) (u21) ((.int .i64 (n : Int))) (u23) (u24)) rfl ?_ ?_)
      · intro a' w' hC' hK
        subst hK
        subst hC'
        exact ⟨u7, u13, u14, u15, u16, u17, u18, u19, u20, u21, (.int .i64 (n : Int)), u23, u24, by first | rfl | (simp; done) | (simp [hs1, hs2, wq, wc]; done), e0, e1, e2, e3, e4, e5, e6, e7, e8, fun _ => rfl, e10, e11, e13, hB0, hK0, hT0⟩
      · exact BigFrame.quiet_move _ rfl rfl
    · obtain rfl := e9 (hdep 9 (by kernel_rfl))
      have HB := Lib.hid hB0; clear hB0
      have HK0 := Lib.hid hK0; clear hK0
      refine wpOp_want rfl rfl ?_
      unfold frC
      go_simp
      refine (Hall.out _).mono ?_
      rintro e w9 ⟨rfl, hb⟩
      go_simp
      exact ⟨u7, u13, u14, u15, u16, u17, u18, u19, u20, u21, (.int .i64 (n : Int)), (.int .i64 ((A6 : Nat) : Int)), u24, by first | rfl | (simp; done) | (simp [hs1, hs2, wq, wc]; done), e0, e1, e2, e3, e4, e5, e6, e7, e8, fun _ => rfl, fun _ => rfl, e11, e13, HB.out.trans (hb.mono (Nat.le_trans hB.size HB.out.size)), HK0.out.up hb, At.congr (hT0.up hb) (fun k _ => rfl)⟩
    · obtain rfl := e8 (hdep 8 (by kernel_rfl))
      obtain rfl := e10 (hdep 10 (by kernel_rfl))
      have HB := Lib.hid hB0; clear hB0
      have HK0 := Lib.hid hK0; clear hK0
      refine wpOp_want rfl rfl ?_
      unfold frC
      go_simp
      refine (Hcut.out _).mono ?_
      rintro e w9 ⟨rfl, hb⟩
      go_simp
      exact ⟨u7, u13, u14, u15, u16, u17, u18, u19, u20, (.int .i64 ((C : Nat) : Int)), u22, (.int .i64 ((A6 : Nat) : Int)), (v2 x0 y0), by first | rfl | (simp; done) | (simp [hs1, hs2, wq, wc]; done), e0, e1, e2, e3, e4, e5, e6, e7, fun _ => rfl, e9, fun _ => rfl, fun _ => rfl, e13, HB.out.trans (hb.mono (Nat.le_trans hB.size HB.out.size)), HK0.out.up hb, At.congr (hT0.up hb) (fun k _ => rfl)⟩
    · obtain rfl := e11 (hdep 11 (by kernel_rfl))
      have hq3' : At wz (w.heap.size + 1) 2 (fun _ => 0) := hT0.congr (fun k _ => by show (if L 12 = true then _ else _) = _; rw [hL]; rfl)
      have o0 := hq3'.cell 0 (by omega)
      have z0 := hq3'.free 0
      have o1 := hq3'.cell 1 (by omega)
      have z1 := hq3'.free 1
      have HB := Lib.hid hB0; clear hB0
      have HK0 := Lib.hid hK0; clear hK0
      refine wpOp_want rfl rfl ?_
      unfold frC
      go_simp
      exact ⟨u7, u13, u14, u15, u16, u17, u18, u19, u20, u21, u22, u23, (v2 x0 y0), by first | rfl | (simp; done) | (simp [hs1, hs2, wq, wc]; done), e0, e1, e2, e3, e4, e5, e6, e7, e8, e9, e10, fun _ => rfl, e13, HB.out.trans (setCells_below (p := (w.heap.size + 1)) (B := w.heap.size) (Nat.le_succ _) (vals 2 (fr x0 y0)) 0), HK0.out.keep (p := (w.heap.size + 1)) (by omega) (vals 2 (fr x0 y0)) 0, At.congr (hq3'.stored (fr x0 y0)) (fun k _ => rfl)⟩
    · refine wpOp_want rfl rfl (Oper.wp_of_quiet (C := fun w' => w' = wz) (K := fun a' => a' = frC d x n w.heap.size ((.bool true)) (u13) (u14) (u15) (u16) (u17) (u18) (u19) (u20) (u21) (u22) (u23) (u24)) rfl ?_ ?_)
      · intro a' w' hC' hK
        subst hK
        subst hC'
        exact ⟨(.bool true), u13, u14, u15, u16, u17, u18, u19, u20, u21, u22, u23, u24, by first | rfl | (simp; done) | (simp [hs1, hs2, wq, wc]; done), e0, e1, e2, e3, e4, e5, e6, e7, e8, e9, e10, e11, fun _ => rfl, hB0, hK0, hT0⟩
      · exact BigFrame.quiet_assign _ rfl rfl
  intro L az wz hL hcl hI
  obtain ⟨u7, u13, u14, u15, u16, u17, u18, u19, u20, u21, u22, u23, u24, rfl, e0, e1, e2, e3, e4, e5, e6, e7, e8, e9, e10, e11, e13, hB0, hK0, hT0⟩ := hI
  obtain rfl := e0 (hL 0 (by decide))
  obtain rfl := e1 (hL 1 (by decide))
  obtain rfl := e2 (hL 2 (by decide))
  obtain rfl := e3 (hL 3 (by decide))
  obtain rfl := e4 (hL 4 (by decide))
  obtain rfl := e5 (hL 5 (by decide))
  obtain rfl := e6 (hL 6 (by decide))
  obtain rfl := e7 (hL 7 (by decide))
  obtain rfl := e8 (hL 8 (by decide))
  obtain rfl := e9 (hL 9 (by decide))
  obtain rfl := e10 (hL 10 (by decide))
  obtain rfl := e11 (hL 11 (by decide))
  obtain rfl := e13 (hL 13 (by decide))
  have hT : At wz (w.heap.size + 1) 2 (fr x0 y0) := hT0.congr fun k hk => by rw [if_pos (hL 12 (by decide))]
  clear hT0
  clear hcl hL
  unfold frC
  have hB := hB.trans hB0
  go_wp2_with fail
  exact ret_cell_tmp (b := w.heap.size + 1) (n := 2) (f := fr x0 y0) Try.results24 rfl rfl Try.underlying29 (by kernel_rfl) hT rfl ⟨rfl, hB⟩


end ChV
end Go.Proofs.Ytdodokeebmdceaa
