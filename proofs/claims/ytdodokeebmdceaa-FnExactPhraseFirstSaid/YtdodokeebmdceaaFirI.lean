/-
  PhraseFirst of the program.
-/
import Derived.Test.YtdodokeebmdceaaRows
import Derived.Test.YtdodokeebmdceaaArr
import Derived.Test.YtdodokeebmdceaaAnyR
import Derived.Test.YtdodokeebmdceaaDieW
import Derived.Test.YtdodokeebmdceaaSortW
import Derived.Test.YtdodokeebmdceaaFracW
import Derived.Test.YtdodokeebmdceaaFracL
import Derived.Test.YtdodokeebmdceaaCutW
import Derived.Test.YtdodokeebmdceaaAll6
import Derived.Test.YtdodokeebmdceaaAllL
import Derived.Test.YtdodokeebmdceaaOwnL
import Derived.Test.YtdodokeebmdceaaFracM
import Derived.Test.YtdodokeebmdceaaWgtM
import Derived.Test.YtdodokeebmdceaaWgtW
import Derived.Test.YtdodokeebmdceaaShelfSl
import Derived.Test.YtdodokeebmdceaaOpenI
import Derived.Test.YtdodokeebmdceaaPhrM
import Derived.Test.YtdodokeebmdceaaPhrW
import Derived.Test.YtdodokeebmdceaaPhrV
import Derived.Test.YtdodokeebmdceaaOvI
import Derived.Test.YtdodokeebmdceaaGoalW
import Derived.Test.YtdodokeebmdceaaFracB2
import Derived.Test.YtdodokeebmdceaaOvS
import Derived.Test.YtdodokeebmdceaaPOv
import Derived.Test.YtdodokeebmdceaaStrW
import Derived.Test.YtdodokeebmdceaaFirstM
import Derived.Test.YtdodokeebmdceaaFracB3
import Derived.Test.YtdodokeebmdceaaBurI
import Derived.Test.YtdodokeebmdceaaFirN
import Derived.Test.YtdodokeebmdceaaOpenD
import Derived.WalkKit
import Derived.WalkLawsBesides
import Derived.WalkSpells
import Derived.ProofKit
import Derived.OpenShut
import Derived.Deep.RegionWith
import Derived.Deep.QuietTactic
import Derived.BigQuiet
namespace Go.Proofs.Ytdodokeebmdceaa
open Go.ChangeShapes Go.WideShapes Go.ChangeAt Go.RowKit
open Go.ChangeMaps (open_string shut_string)

namespace FirI
open Dice Arr DieW SortW FracW CutW All6 AllL OwnL FracM WgtM WgtW OpenG PhrM PhrW AnyR PhrV OvI GoalW POv StrW FirstM FirN

open BurI (wone)

set_option maxRecDepth 100000 in
set_option maxHeartbeats 4000000 in
theorem implPF_any (d : Nat → Int) (ga n gb m : Nat) (fa fb : Nat → Int) (w : World) (hA : At w ga n fa) (hC : At w gb m fb) :
    Calls Try.prog 37 #[dv d, .slice (some ⟨ga, 0, none⟩) n n, .slice (some ⟨gb, 0, none⟩) m m] w fun e w' => e = .returned (.tuple #[v2 (qx d n fa m fb) (qy d n fa m fb), .bool (okF d n fa m fb)]) ∧ Below w.heap.size w w' := by
  have hc := fun (A : Option Addr) (k c : Nat) (f : Nat → Int) (w : World) (h : RowI w A k f) => implPh_any d A k c f w h
  unfold dv at hc
  have Hc := Lib.hid hc; clear hc
  have hpA := fun w (h : At w ga n fa) => Hc.out (some ⟨ga, 0, none⟩) n n fa w (row_at h)
  have hpC := fun w (h : At w gb m fb) => Hc.out (some ⟨gb, 0, none⟩) m m fb w (row_at h)
  clear Hc
  cases h1 : okPh d n fa
  · rw [h1] at hpA
    have HpA := Lib.hid hpA; clear hpA hpC
    have hok : okF d n fa m fb = false := by simp [okF, h1]
    rw [hok, (f_no hok).1, (f_no hok).2]
    clear hok
    clear h1
    unfold dv
    have hB0 := na (na (n0 w) (sixO d 22)) (.cells #[.int .i64 0, .int .i64 0] 29)
    have hD0 := (At.new6 w d 22 rfl).past (.cells #[.int .i64 0, .int .i64 0] 29)
    have hR0 := At.new2 (w.alloc (sixO d 22)) 29
    rw [size_alloc] at hR0
    obtain ⟨e0, e1, e2, e3, e4, e5⟩ := hD0.six
    have hA0 := (hA.past (sixO d 22)).past (.cells #[.int .i64 0, .int .i64 0] 29)
    have hC0 := (hC.past (sixO d 22)).past (.cells #[.int .i64 0, .int .i64 0] 29)
    have hgal := hA.lt
    have hgbl := hC.lt
    clear hA hC
    go_enter Try.func37, Try.ntmps37
    go_wp2_with fail
    refine (HpA.out _ hA0).mono ?_
    rintro e w1 ⟨rfl, hb1⟩
    have hR1 := hR0.up hb1
    have hD1 := hD0.up hb1
    have hA1 := hA0.up hb1
    have hC1 := hC0.up hb1
    have hB1 := nx hB0 hb1
    clear e0 e1 e2 e3 e4 e5
    have hRX := hR1
    have c0 := hRX.cell 0 (by omega)
    have c1 := hRX.cell 1 (by omega)
    have z0 := hRX.free 0
    have z1 := hRX.free 1
    go_wp2_with fail
    refine ret_cell_tmp (b := w.heap.size + 1) (n := 2) (f := fr 0 0) Try.results37 rfl rfl Try.underlying29 (by kernel_rfl) (fin2' hRX _ _) rfl ⟨rfl, ?_⟩
    exact (hB1.setCell (p := ⟨w.heap.size + 1, 0, none⟩) (Nat.le_succ _) _).setCell (p := ⟨w.heap.size + 1, 1, none⟩) (Nat.le_succ _) _
  rw [h1] at hpA
  have HpA := Lib.hid hpA; clear hpA
  cases h2 : okPh d m fb
  · rw [h2] at hpC
    have HpC := Lib.hid hpC; clear hpC
    have hok : okF d n fa m fb = false := by simp [okF, h1, h2]
    rw [hok, (f_no hok).1, (f_no hok).2]
    clear hok
    clear h1 h2
    unfold dv
    have hB0 := na (na (n0 w) (sixO d 22)) (.cells #[.int .i64 0, .int .i64 0] 29)
    have hD0 := (At.new6 w d 22 rfl).past (.cells #[.int .i64 0, .int .i64 0] 29)
    have hR0 := At.new2 (w.alloc (sixO d 22)) 29
    rw [size_alloc] at hR0
    obtain ⟨e0, e1, e2, e3, e4, e5⟩ := hD0.six
    have hA0 := (hA.past (sixO d 22)).past (.cells #[.int .i64 0, .int .i64 0] 29)
    have hC0 := (hC.past (sixO d 22)).past (.cells #[.int .i64 0, .int .i64 0] 29)
    have hgal := hA.lt
    have hgbl := hC.lt
    clear hA hC
    go_enter Try.func37, Try.ntmps37
    go_wp2_with fail
    refine (HpA.out _ hA0).mono ?_
    rintro e w1 ⟨rfl, hb1⟩
    have hR1 := hR0.up hb1
    have hD1 := hD0.up hb1
    have hA1 := hA0.up hb1
    have hC1 := hC0.up hb1
    have hB1 := nx hB0 hb1
    clear e0 e1 e2 e3 e4 e5
    obtain ⟨e0, e1, e2, e3, e4, e5⟩ := hD1.six
    go_wp2_with fail
    refine (HpC.out _ hC1).mono ?_
    rintro e w2 ⟨rfl, hb2⟩
    have hR2 := hR1.up hb2
    have hD2 := hD1.up hb2
    have hA2 := hA1.up hb2
    have hC2 := hC1.up hb2
    have hB2 := nx hB1 hb2
    clear e0 e1 e2 e3 e4 e5
    have hRX := hR2
    have c0 := hRX.cell 0 (by omega)
    have c1 := hRX.cell 1 (by omega)
    have z0 := hRX.free 0
    have z1 := hRX.free 1
    go_wp2_with fail
    refine ret_cell_tmp (b := w.heap.size + 1) (n := 2) (f := fr 0 0) Try.results37 rfl rfl Try.underlying29 (by kernel_rfl) (fin2' hRX _ _) rfl ⟨rfl, ?_⟩
    exact (hB2.setCell (p := ⟨w.heap.size + 1, 0, none⟩) (Nat.le_succ _) _).setCell (p := ⟨w.heap.size + 1, 1, none⟩) (Nat.le_succ _) _
  rw [h2] at hpC
  have HpC := Lib.hid hpC; clear hpC
  obtain ⟨_, hn1, hn6, hvA⟩ := of_ph h1
  obtain ⟨_, hm1, hm6, hvC⟩ := of_ph h2
  have hsA : ∀ w, At w ga n fa → At w gb m fb → _ := fun w hA hC => implSt_any ga n gb m fa fb w hA hC hn6 hm6
  have hsB : ∀ w, At w ga n fa → At w gb m fb → _ := fun w hA hC => implSt_any gb m ga n fb fa w hC hA hm6 hn6
  cases s1 : st fa n fb m n
  case true =>
    rw [s1] at hsA
    have HsA := Lib.hid hsA; clear hsA
    clear hsB
    have hok : okF d n fa m fb = false := by simp [okF, h1, h2, s1]
    rw [hok, (f_no hok).1, (f_no hok).2]
    clear hok
    clear h1 h2 hvA hvC s1
    unfold dv
    have hB0 := na (na (n0 w) (sixO d 22)) (.cells #[.int .i64 0, .int .i64 0] 29)
    have hD0 := (At.new6 w d 22 rfl).past (.cells #[.int .i64 0, .int .i64 0] 29)
    have hR0 := At.new2 (w.alloc (sixO d 22)) 29
    rw [size_alloc] at hR0
    obtain ⟨e0, e1, e2, e3, e4, e5⟩ := hD0.six
    have hA0 := (hA.past (sixO d 22)).past (.cells #[.int .i64 0, .int .i64 0] 29)
    have hC0 := (hC.past (sixO d 22)).past (.cells #[.int .i64 0, .int .i64 0] 29)
    have hgal := hA.lt
    have hgbl := hC.lt
    clear hA hC
    go_enter Try.func37, Try.ntmps37
    go_wp2_with fail
    refine (HpA.out _ hA0).mono ?_
    rintro e w1 ⟨rfl, hb1⟩
    have hR1 := hR0.up hb1
    have hD1 := hD0.up hb1
    have hA1 := hA0.up hb1
    have hC1 := hC0.up hb1
    have hB1 := nx hB0 hb1
    clear e0 e1 e2 e3 e4 e5
    obtain ⟨e0, e1, e2, e3, e4, e5⟩ := hD1.six
    go_wp2_with fail
    refine (HpC.out _ hC1).mono ?_
    rintro e w2 ⟨rfl, hb2⟩
    have hR2 := hR1.up hb2
    have hD2 := hD1.up hb2
    have hA2 := hA1.up hb2
    have hC2 := hC1.up hb2
    have hB2 := nx hB1 hb2
    clear e0 e1 e2 e3 e4 e5
    go_wp2_with fail
    refine (HsA.out _ hA2 hC2).mono ?_
    rintro e w3 ⟨rfl, hb3⟩
    have hR3 := hR2.up hb3
    have hD3 := hD2.up hb3
    have hA3 := hA2.up hb3
    have hC3 := hC2.up hb3
    have hB3 := nx hB2 hb3
    have hRX := hR3
    have c0 := hRX.cell 0 (by omega)
    have c1 := hRX.cell 1 (by omega)
    have z0 := hRX.free 0
    have z1 := hRX.free 1
    go_wp2_with fail
    refine ret_cell_tmp (b := w.heap.size + 1) (n := 2) (f := fr 0 0) Try.results37 rfl rfl Try.underlying29 (by kernel_rfl) (fin2' hRX _ _) rfl ⟨rfl, ?_⟩
    exact (hB3.setCell (p := ⟨w.heap.size + 1, 0, none⟩) (Nat.le_succ _) _).setCell (p := ⟨w.heap.size + 1, 1, none⟩) (Nat.le_succ _) _
  rw [s1] at hsA
  have HsA := Lib.hid hsA; clear hsA
  cases s2 : st fb m fa n m
  case true =>
    rw [s2] at hsB
    have HsB := Lib.hid hsB; clear hsB
    have hok : okF d n fa m fb = false := by simp [okF, h1, h2, s1, s2]
    rw [hok, (f_no hok).1, (f_no hok).2]
    clear hok
    clear h1 h2 hvA hvC s2 s1
    unfold dv
    have hB0 := na (na (n0 w) (sixO d 22)) (.cells #[.int .i64 0, .int .i64 0] 29)
    have hD0 := (At.new6 w d 22 rfl).past (.cells #[.int .i64 0, .int .i64 0] 29)
    have hR0 := At.new2 (w.alloc (sixO d 22)) 29
    rw [size_alloc] at hR0
    obtain ⟨e0, e1, e2, e3, e4, e5⟩ := hD0.six
    have hA0 := (hA.past (sixO d 22)).past (.cells #[.int .i64 0, .int .i64 0] 29)
    have hC0 := (hC.past (sixO d 22)).past (.cells #[.int .i64 0, .int .i64 0] 29)
    have hgal := hA.lt
    have hgbl := hC.lt
    clear hA hC
    go_enter Try.func37, Try.ntmps37
    go_wp2_with fail
    refine (HpA.out _ hA0).mono ?_
    rintro e w1 ⟨rfl, hb1⟩
    have hR1 := hR0.up hb1
    have hD1 := hD0.up hb1
    have hA1 := hA0.up hb1
    have hC1 := hC0.up hb1
    have hB1 := nx hB0 hb1
    clear e0 e1 e2 e3 e4 e5
    obtain ⟨e0, e1, e2, e3, e4, e5⟩ := hD1.six
    go_wp2_with fail
    refine (HpC.out _ hC1).mono ?_
    rintro e w2 ⟨rfl, hb2⟩
    have hR2 := hR1.up hb2
    have hD2 := hD1.up hb2
    have hA2 := hA1.up hb2
    have hC2 := hC1.up hb2
    have hB2 := nx hB1 hb2
    clear e0 e1 e2 e3 e4 e5
    go_wp2_with fail
    refine (HsA.out _ hA2 hC2).mono ?_
    rintro e w3 ⟨rfl, hb3⟩
    have hR3 := hR2.up hb3
    have hD3 := hD2.up hb3
    have hA3 := hA2.up hb3
    have hC3 := hC2.up hb3
    have hB3 := nx hB2 hb3
    go_wp2_with fail
    refine (HsB.out _ hA3 hC3).mono ?_
    rintro e w4 ⟨rfl, hb4⟩
    have hR4 := hR3.up hb4
    have hD4 := hD3.up hb4
    have hA4 := hA3.up hb4
    have hC4 := hC3.up hb4
    have hB4 := nx hB3 hb4
    have hRX := hR4
    have c0 := hRX.cell 0 (by omega)
    have c1 := hRX.cell 1 (by omega)
    have z0 := hRX.free 0
    have z1 := hRX.free 1
    go_wp2_with fail
    refine ret_cell_tmp (b := w.heap.size + 1) (n := 2) (f := fr 0 0) Try.results37 rfl rfl Try.underlying29 (by kernel_rfl) (fin2' hRX _ _) rfl ⟨rfl, ?_⟩
    exact (hB4.setCell (p := ⟨w.heap.size + 1, 0, none⟩) (Nat.le_succ _) _).setCell (p := ⟨w.heap.size + 1, 1, none⟩) (Nat.le_succ _) _
  rw [s2] at hsB
  have HsB := Lib.hid hsB; clear hsB
  have hok : okF d n fa m fb = true := by simp [okF, h1, h2, s1, s2]
  rw [hok, (f_yes hok).1, (f_yes hok).2]
  clear hok
  obtain ⟨wa1, wa2, nb1, nb2, hltA⟩ := first_facts (d := d) ⟨hn1, hn6⟩ ⟨hm1, hm6⟩ hvA hvC s1 s2
  obtain ⟨wb1, wb2, na1, na2, hltB⟩ := first_facts (d := d) ⟨hm1, hm6⟩ ⟨hn1, hn6⟩ hvC hvA s2 s1
  have hwA : ∀ w, At w ga n fa → Calls Try.prog 74 #[dv d, .slice (some ⟨ga, 0, none⟩) n n] w fun e w' => e = .returned (.int .i64 (pr (wv d fa) n : Nat)) ∧ Below w.heap.size w w' := fun w h => ways_any d _ n n fa w (row_at h) hn6
  have hwC : ∀ w, At w gb m fb → Calls Try.prog 74 #[dv d, .slice (some ⟨gb, 0, none⟩) m m] w fun e w' => e = .returned (.int .i64 (pr (wv d fb) m : Nat)) ∧ Below w.heap.size w w' := fun w h => ways_any d _ m m fb w (row_at h) hm6
  have hbb : ∀ w, At w ga n fa → At w gb m fb → Calls Try.prog 73 #[dv d, .slice (some ⟨gb, 0, none⟩) m m, .slice (some ⟨gb, 0, none⟩) m m] w fun e w' => e = .returned (.int .i64 (nO d m fb m fb : Nat)) ∧ Below w.heap.size w w' := fun w hA hC => implOv_any d gb m gb m fb fb w hC hC ⟨hm1, hm6⟩ ⟨hm1, hm6⟩
  have hba : ∀ w, At w ga n fa → At w gb m fb → Calls Try.prog 73 #[dv d, .slice (some ⟨gb, 0, none⟩) m m, .slice (some ⟨ga, 0, none⟩) n n] w fun e w' => e = .returned (.int .i64 (nO d m fb n fa : Nat)) ∧ Below w.heap.size w w' := fun w hA hC => implOv_any d gb m ga n fb fa w hC hA ⟨hm1, hm6⟩ ⟨hn1, hn6⟩
  have haa : ∀ w, At w ga n fa → At w gb m fb → Calls Try.prog 73 #[dv d, .slice (some ⟨ga, 0, none⟩) n n, .slice (some ⟨ga, 0, none⟩) n n] w fun e w' => e = .returned (.int .i64 (nO d n fa n fa : Nat)) ∧ Below w.heap.size w w' := fun w hA hC => implOv_any d ga n ga n fa fa w hA hA ⟨hn1, hn6⟩ ⟨hn1, hn6⟩
  have hab : ∀ w, At w ga n fa → At w gb m fb → Calls Try.prog 73 #[dv d, .slice (some ⟨ga, 0, none⟩) n n, .slice (some ⟨gb, 0, none⟩) m m] w fun e w' => e = .returned (.int .i64 (nO d n fa m fb : Nat)) ∧ Below w.heap.size w w' := fun w hA hC => implOv_any d ga n gb m fa fb w hA hC ⟨hn1, hn6⟩ ⟨hm1, hm6⟩
  have hfA : fA d n fa m fb = nO d m fb m fb * pr (wv d fa) n - nO d m fb n fa * pr (wv d fb) m := rfl
  have hfB : fA d m fb n fa = nO d n fa n fa * pr (wv d fb) m - nO d n fa m fb * pr (wv d fa) n := rfl
  clear h1 h2 hvA hvC s1 s2
  generalize nO d m fb m fb = NBB at *
  generalize nO d m fb n fa = NBA at *
  generalize nO d n fa n fa = NAA at *
  generalize nO d n fa m fb = NAB at *
  generalize pr (wv d fa) n = WA at *
  generalize pr (wv d fb) m = WB at *
  generalize fA d n fa m fb = A at *
  generalize fA d m fb n fa = B at *
  unfold dv at hwA hwC hbb hba haa hab
  have HwA := Lib.hid hwA; clear hwA
  have HwC := Lib.hid hwC; clear hwC
  have Hbb := Lib.hid hbb; clear hbb
  have Hba := Lib.hid hba; clear hba
  have Haa := Lib.hid haa; clear haa
  have Hab := Lib.hid hab; clear hab
  have b1 : NBB * WA ≤ 279936 * 15625 := Nat.mul_le_mul nb1 wa2
  have b2 : NBA * WB ≤ 279936 * 15625 := Nat.mul_le_mul nb2 wb2
  have b3 : NAA * WB ≤ 279936 * 15625 := Nat.mul_le_mul na1 wb2
  have b4 : NAB * WA ≤ 279936 * 15625 := Nat.mul_le_mul na2 wa2
  obtain ⟨P1, hP1⟩ : ∃ p, p = NBB * WA := ⟨_, rfl⟩
  obtain ⟨P2, hP2⟩ : ∃ p, p = NBA * WB := ⟨_, rfl⟩
  obtain ⟨P3, hP3⟩ : ∃ p, p = NAA * WB := ⟨_, rfl⟩
  obtain ⟨P4, hP4⟩ : ∃ p, p = NAB * WA := ⟨_, rfl⟩
  rw [← hP1] at b1 hltA hfA
  rw [← hP2] at b2 hltA hfA
  rw [← hP3] at b3 hltB hfB
  rw [← hP4] at b4 hltB hfB
  have HP1 := Lib.hid hP1
  have HP2 := Lib.hid hP2
  have HP3 := Lib.hid hP3
  have HP4 := Lib.hid hP4
  clear hP1 hP2 hP3 hP4 wa1 wa2 wb1 wb2 nb1 nb2 na1 na2
  obtain ⟨T, hT⟩ : ∃ T, T = A + B := ⟨_, rfl⟩
  have sA : (P1 : Int) - (P2 : Int) = (A : Int) := by omega
  have sB : (P3 : Int) - (P4 : Int) = (B : Int) := by omega
  have sT : (A : Int) + (B : Int) = (T : Int) := by omega
  have lA : A ≤ 4374000000 := by omega
  have lB : B ≤ 4374000000 := by omega
  have lT : T ≤ 8748000000 := by omega
  have l1 : P1 ≤ 4374000000 := by omega
  have l2 : P2 ≤ 4374000000 := by omega
  have l3 : P3 ≤ 4374000000 := by omega
  have l4 : P4 ≤ 4374000000 := by omega
  have t1 : 1 ≤ T := by omega
  have hcut : ∀ w, Calls Try.prog 56 #[.int .i64 (A : Nat), .int .i64 (T : Nat)] w fun e w' => e = .returned (v2 (num A T : Nat) (den A T : Nat)) ∧ Below w.heap.size w w' := fun w => FracL.fractionL A T w (by omega) (by omega) t1
  rw [← hT]
  clear hT hfA hfB hltA hltB b1 b2 b3 b4 t1
  have Q1 := Lib.hid (wone (p := P1) (by omega))
  have Q2 := Lib.hid (wone (p := P2) (by omega))
  have Q3 := Lib.hid (wone (p := P3) (by omega))
  have Q4 := Lib.hid (wone (p := P4) (by omega))
  have Q5 := Lib.hid (wone (p := A) (by omega))
  have Q6 := Lib.hid (wone (p := B) (by omega))
  have Q7 := Lib.hid (wone (p := T) (by omega))
  have Hcut := Lib.hid hcut; clear hcut
  generalize num A T = x0 at *
  generalize den A T = y0 at *
  have m1 : (NBB : Int) * (WA : Int) = (P1 : Int) := by rw [HP1.out]; push_cast; rfl
  have m2 : (NBA : Int) * (WB : Int) = (P2 : Int) := by rw [HP2.out]; push_cast; rfl
  have m3 : (NAA : Int) * (WB : Int) = (P3 : Int) := by rw [HP3.out]; push_cast; rfl
  have m4 : (NAB : Int) * (WA : Int) = (P4 : Int) := by rw [HP4.out]; push_cast; rfl
  clear HP1 HP2 HP3 HP4
  obtain ⟨q1, q1'⟩ := Q1.out
  obtain ⟨q2, q2'⟩ := Q2.out
  obtain ⟨q3, q3'⟩ := Q3.out
  obtain ⟨q4, q4'⟩ := Q4.out
  obtain ⟨q5, q5'⟩ := Q5.out
  obtain ⟨q6, q6'⟩ := Q6.out
  obtain ⟨q7, q7'⟩ := Q7.out
  unfold dv
  have hB0 := na (na (n0 w) (sixO d 22)) (.cells #[.int .i64 0, .int .i64 0] 29)
  have hD0 := (At.new6 w d 22 rfl).past (.cells #[.int .i64 0, .int .i64 0] 29)
  have hR0 := At.new2 (w.alloc (sixO d 22)) 29
  rw [size_alloc] at hR0
  obtain ⟨e0, e1, e2, e3, e4, e5⟩ := hD0.six
  have hA0 := (hA.past (sixO d 22)).past (.cells #[.int .i64 0, .int .i64 0] 29)
  have hC0 := (hC.past (sixO d 22)).past (.cells #[.int .i64 0, .int .i64 0] 29)
  have hgal := hA.lt
  have hgbl := hC.lt
  clear hA hC
  go_enter Try.func37, Try.ntmps37
  go_wp2_with fail
  refine (HpA.out _ hA0).mono ?_
  rintro e w1 ⟨rfl, hb1⟩
  have hR1 := hR0.up hb1
  have hD1 := hD0.up hb1
  have hA1 := hA0.up hb1
  have hC1 := hC0.up hb1
  have hB1 := nx hB0 hb1
  clear e0 e1 e2 e3 e4 e5
  obtain ⟨e0, e1, e2, e3, e4, e5⟩ := hD1.six
  go_wp2_with fail
  refine (HpC.out _ hC1).mono ?_
  rintro e w2 ⟨rfl, hb2⟩
  have hR2 := hR1.up hb2
  have hD2 := hD1.up hb2
  have hA2 := hA1.up hb2
  have hC2 := hC1.up hb2
  have hB2 := nx hB1 hb2
  clear e0 e1 e2 e3 e4 e5
  go_wp2_with fail
  refine (HsA.out _ hA2 hC2).mono ?_
  rintro e w3 ⟨rfl, hb3⟩
  have hR3 := hR2.up hb3
  have hD3 := hD2.up hb3
  have hA3 := hA2.up hb3
  have hC3 := hC2.up hb3
  have hB3 := nx hB2 hb3
  go_wp2_with fail
  refine (HsB.out _ hA3 hC3).mono ?_
  rintro e w4 ⟨rfl, hb4⟩
  have hR4 := hR3.up hb4
  have hD4 := hD3.up hb4
  have hA4 := hA3.up hb4
  have hC4 := hC3.up hb4
  have hB4 := nx hB3 hb4
  obtain ⟨W, hW⟩ : ∃ W, W = w4 := ⟨_, rfl⟩
  have hR := hR4
  have hD := hD4
  have hA := hA4
  have hC := hC4
  have hB := hB4
  rw [← hW] at hR hD hA hC hB ⊢
  clear hW hR0 hR1 hR2 hR3 hR4 hD0 hD1 hD2 hD3 hD4 hA0 hA1 hA2 hA3 hA4 hC0 hC1 hC2 hC3 hC4 hB0 hB1 hB2 hB3 hB4 hb1 hb2 hb3 hb4 HsA HsB HpA HpC
  go_wp2_with fail
  have HD := Lib.hid hD
  have HA := Lib.hid hA
  have HC := Lib.hid hC
  have HR := Lib.hid hR
  have HB := Lib.hid hB
  clear hD hA hC hR hB
  refine wp_region_quiet (C := fun w' => Below W.heap.size W w') (by kernel_rfl) (by kernel_rfl) ((n0 W).drew) ?_
  refine BigFrame.wpQuiet_want rfl (fun K hK => quiet_ld6 _ rfl rfl (fun _ h => HD.out.up h) (hK _ ?_)); clear hK K; go_simp
  refine BigFrame.wpQuiet_want rfl (fun K hK => BigFrame.quiet_move _ rfl (hK _ ?_)); clear hK K; go_simp
  refine BigFrame.wpQuiet_want rfl (fun K hK => ⟨(.int .i64 (WA : Nat)), fun w' hw' => ?_, hK _ ?_⟩)
  · clear hK K
    have Hw := Lib.hid hw'; clear hw'
    go_simp
    refine (HwA.out _ (HA.out.up Hw.out)).mono ?_
    rintro e w5 ⟨rfl, hb5⟩
    exact ⟨rfl, nx Hw.out hb5⟩
  clear hK K; go_simp
  refine BigFrame.wpQuiet_want rfl (fun K hK => quiet_ld6 _ rfl rfl (fun _ h => HD.out.up h) (hK _ ?_)); clear hK K; go_simp
  refine BigFrame.wpQuiet_want rfl (fun K hK => BigFrame.quiet_move _ rfl (hK _ ?_)); clear hK K; go_simp
  refine BigFrame.wpQuiet_want rfl (fun K hK => ⟨(.int .i64 (WB : Nat)), fun w' hw' => ?_, hK _ ?_⟩)
  · clear hK K
    have Hw := Lib.hid hw'; clear hw'
    go_simp
    refine (HwC.out _ (HC.out.up Hw.out)).mono ?_
    rintro e w5 ⟨rfl, hb5⟩
    exact ⟨rfl, nx Hw.out hb5⟩
  clear hK K; go_simp
  refine BigFrame.wpQuiet_want rfl (fun K hK => BigFrame.quiet_assign _ rfl (hK _ ?_)); clear hK K; go_simp
  refine BigFrame.wpQuiet_want rfl (fun K hK => BigFrame.quiet_assign _ rfl (hK _ ?_)); clear hK K; go_simp
  refine wpQuiet_nil ?_
  intro w5 hQ5
  have hD := HD.out.up hQ5
  have hA := HA.out.up hQ5
  have hC := HC.out.up hQ5
  have hR := HR.out.up hQ5
  have hB := nx HB.out hQ5
  clear HD HA HC HR HB hQ5
  obtain ⟨W, hW⟩ : ∃ W, W = w5 := ⟨_, rfl⟩
  rw [← hW] at hD hA hC hR hB ⊢
  clear hW
  go_wp2_with fail
  have HD := Lib.hid hD
  have HA := Lib.hid hA
  have HC := Lib.hid hC
  have HR := Lib.hid hR
  have HB := Lib.hid hB
  clear hD hA hC hR hB
  refine wp_region_quiet (C := fun w' => Below W.heap.size W w') (by kernel_rfl) (by kernel_rfl) ((n0 W).drew) ?_
  refine BigFrame.wpQuiet_want rfl (fun K hK => quiet_ld6 _ rfl rfl (fun _ h => HD.out.up h) (hK _ ?_)); clear hK K; go_simp
  refine BigFrame.wpQuiet_want rfl (fun K hK => BigFrame.quiet_move _ rfl (hK _ ?_)); clear hK K; go_simp
  refine BigFrame.wpQuiet_want rfl (fun K hK => BigFrame.quiet_move _ rfl (hK _ ?_)); clear hK K; go_simp
  refine BigFrame.wpQuiet_want rfl (fun K hK => ⟨(.int .i64 (NBB : Nat)), fun w' hw' => ?_, hK _ ?_⟩)
  · clear hK K
    have Hw := Lib.hid hw'; clear hw'
    go_simp
    refine (Hbb.out _ (HA.out.up Hw.out) (HC.out.up Hw.out)).mono ?_
    rintro e w5 ⟨rfl, hb5⟩
    exact ⟨rfl, nx Hw.out hb5⟩
  clear hK K; go_simp
  refine BigFrame.wpQuiet_want rfl (fun K hK => BigFrame.quiet_move _ rfl (hK _ ?_)); clear hK K; go_simp
  refine BigFrame.wpQuiet_want rfl (fun K hK => ?_); go_big_quiet_op; refine ⟨_, by intros; rfl, hK _ ?_⟩; clear hK K; go_simp
  refine BigFrame.wpQuiet_want rfl (fun K hK => quiet_ld6 _ rfl rfl (fun _ h => HD.out.up h) (hK _ ?_)); clear hK K; go_simp
  refine BigFrame.wpQuiet_want rfl (fun K hK => BigFrame.quiet_move _ rfl (hK _ ?_)); clear hK K; go_simp
  refine BigFrame.wpQuiet_want rfl (fun K hK => BigFrame.quiet_move _ rfl (hK _ ?_)); clear hK K; go_simp
  refine BigFrame.wpQuiet_want rfl (fun K hK => ⟨(.int .i64 (NBA : Nat)), fun w' hw' => ?_, hK _ ?_⟩)
  · clear hK K
    have Hw := Lib.hid hw'; clear hw'
    go_simp
    refine (Hba.out _ (HA.out.up Hw.out) (HC.out.up Hw.out)).mono ?_
    rintro e w5 ⟨rfl, hb5⟩
    exact ⟨rfl, nx Hw.out hb5⟩
  clear hK K; go_simp
  refine BigFrame.wpQuiet_want rfl (fun K hK => BigFrame.quiet_move _ rfl (hK _ ?_)); clear hK K; go_simp
  refine BigFrame.wpQuiet_want rfl (fun K hK => ?_); go_big_quiet_op; refine ⟨_, by intros; rfl, hK _ ?_⟩; clear hK K; go_simp
  refine BigFrame.wpQuiet_want rfl (fun K hK => ?_); go_big_quiet_op; refine ⟨_, by intros; rfl, hK _ ?_⟩; clear hK K; go_simp
  refine BigFrame.wpQuiet_want rfl (fun K hK => BigFrame.quiet_assign _ rfl (hK _ ?_)); clear hK K; go_simp
  refine wpQuiet_nil ?_
  intro w6 hQ6
  have hD := HD.out.up hQ6
  have hA := HA.out.up hQ6
  have hC := HC.out.up hQ6
  have hR := HR.out.up hQ6
  have hB := nx HB.out hQ6
  clear HD HA HC HR HB hQ6
  obtain ⟨W, hW⟩ : ∃ W, W = w6 := ⟨_, rfl⟩
  rw [← hW] at hD hA hC hR hB ⊢
  clear hW
  go_wp2_with fail
  have HD := Lib.hid hD
  have HA := Lib.hid hA
  have HC := Lib.hid hC
  have HR := Lib.hid hR
  have HB := Lib.hid hB
  clear hD hA hC hR hB
  refine wp_region_quiet (C := fun w' => Below W.heap.size W w') (by kernel_rfl) (by kernel_rfl) ((n0 W).drew) ?_
  refine BigFrame.wpQuiet_want rfl (fun K hK => quiet_ld6 _ rfl rfl (fun _ h => HD.out.up h) (hK _ ?_)); clear hK K; go_simp
  refine BigFrame.wpQuiet_want rfl (fun K hK => BigFrame.quiet_move _ rfl (hK _ ?_)); clear hK K; go_simp
  refine BigFrame.wpQuiet_want rfl (fun K hK => BigFrame.quiet_move _ rfl (hK _ ?_)); clear hK K; go_simp
  refine BigFrame.wpQuiet_want rfl (fun K hK => ⟨(.int .i64 (NAA : Nat)), fun w' hw' => ?_, hK _ ?_⟩)
  · clear hK K
    have Hw := Lib.hid hw'; clear hw'
    go_simp
    refine (Haa.out _ (HA.out.up Hw.out) (HC.out.up Hw.out)).mono ?_
    rintro e w5 ⟨rfl, hb5⟩
    exact ⟨rfl, nx Hw.out hb5⟩
  clear hK K; go_simp
  refine BigFrame.wpQuiet_want rfl (fun K hK => BigFrame.quiet_move _ rfl (hK _ ?_)); clear hK K; go_simp
  refine BigFrame.wpQuiet_want rfl (fun K hK => ?_); go_big_quiet_op; refine ⟨_, by intros; rfl, hK _ ?_⟩; clear hK K; go_simp
  refine BigFrame.wpQuiet_want rfl (fun K hK => quiet_ld6 _ rfl rfl (fun _ h => HD.out.up h) (hK _ ?_)); clear hK K; go_simp
  refine BigFrame.wpQuiet_want rfl (fun K hK => BigFrame.quiet_move _ rfl (hK _ ?_)); clear hK K; go_simp
  refine BigFrame.wpQuiet_want rfl (fun K hK => BigFrame.quiet_move _ rfl (hK _ ?_)); clear hK K; go_simp
  refine BigFrame.wpQuiet_want rfl (fun K hK => ⟨(.int .i64 (NAB : Nat)), fun w' hw' => ?_, hK _ ?_⟩)
  · clear hK K
    have Hw := Lib.hid hw'; clear hw'
    go_simp
    refine (Hab.out _ (HA.out.up Hw.out) (HC.out.up Hw.out)).mono ?_
    rintro e w5 ⟨rfl, hb5⟩
    exact ⟨rfl, nx Hw.out hb5⟩
  clear hK K; go_simp
  refine BigFrame.wpQuiet_want rfl (fun K hK => BigFrame.quiet_move _ rfl (hK _ ?_)); clear hK K; go_simp
  refine BigFrame.wpQuiet_want rfl (fun K hK => ?_); go_big_quiet_op; refine ⟨_, by intros; rfl, hK _ ?_⟩; clear hK K; go_simp
  refine BigFrame.wpQuiet_want rfl (fun K hK => ?_); go_big_quiet_op; refine ⟨_, by intros; rfl, hK _ ?_⟩; clear hK K; go_simp
  refine BigFrame.wpQuiet_want rfl (fun K hK => BigFrame.quiet_assign _ rfl (hK _ ?_)); clear hK K; go_simp
  refine wpQuiet_nil ?_
  intro w7 hQ7
  have hD := HD.out.up hQ7
  have hA := HA.out.up hQ7
  have hC := HC.out.up hQ7
  have hR := HR.out.up hQ7
  have hB := nx HB.out hQ7
  clear HD HA HC HR HB hQ7
  obtain ⟨W, hW⟩ : ∃ W, W = w7 := ⟨_, rfl⟩
  rw [← hW] at hD hA hC hR hB ⊢
  clear hW
  go_wp2_with fail
  refine (Hcut.out _).mono ?_
  rintro e w8 ⟨rfl, hb8⟩
  have hRX := hR.up hb8
  have hB8 := nx hB hb8
  have c0 := hRX.cell 0 (by omega)
  have c1 := hRX.cell 1 (by omega)
  have z0 := hRX.free 0
  have z1 := hRX.free 1
  go_wp2_with fail
  refine ret_cell_tmp (b := w.heap.size + 1) (n := 2) (f := fr x0 y0) Try.results37 rfl rfl Try.underlying29 (by kernel_rfl) (fin2' hRX _ _) rfl ⟨rfl, ?_⟩
  exact (hB8.setCell (p := ⟨w.heap.size + 1, 0, none⟩) (Nat.le_succ _) _).setCell (p := ⟨w.heap.size + 1, 1, none⟩) (Nat.le_succ _) _


end FirI
end Go.Proofs.Ytdodokeebmdceaa
