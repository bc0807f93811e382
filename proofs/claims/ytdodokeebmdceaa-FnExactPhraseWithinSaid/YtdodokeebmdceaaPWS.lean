/-
  PhraseWithin by the specification.
-/
import Derived.Test.YtdodokeebmdceaaRows
import Derived.Test.YtdodokeebmdceaaArr
import Derived.Test.YtdodokeebmdceaaAnyR
import Derived.Test.YtdodokeebmdceaaDieW
import Derived.Test.YtdodokeebmdceaaSortW
import Derived.Test.YtdodokeebmdceaaFracW
import Derived.Test.YtdodokeebmdceaaFracL
import Derived.Test.YtdodokeebmdceaaCutW
import Derived.Test.YtdodokeebmdceaaAll6
import Derived.Test.YtdodokeebmdceaaAllL
import Derived.Test.YtdodokeebmdceaaOwnL
import Derived.Test.YtdodokeebmdceaaFracM
import Derived.Test.YtdodokeebmdceaaWgtM
import Derived.Test.YtdodokeebmdceaaWgtW
import Derived.Test.YtdodokeebmdceaaShelfSl
import Derived.Test.YtdodokeebmdceaaOpenI
import Derived.Test.YtdodokeebmdceaaPhrM
import Derived.Test.YtdodokeebmdceaaPhrW
import Derived.Test.YtdodokeebmdceaaPhrV
import Derived.Test.YtdodokeebmdceaaOvI
import Derived.Test.YtdodokeebmdceaaGoalW
import Derived.Test.YtdodokeebmdceaaFracB2
import Derived.Test.YtdodokeebmdceaaOvS
import Derived.Test.YtdodokeebmdceaaChM
import Derived.Test.YtdodokeebmdceaaChW
import Derived.Test.YtdodokeebmdceaaChV
import Derived.Test.YtdodokeebmdceaaChG
import Derived.Test.YtdodokeebmdceaaStpS
import Derived.Test.YtdodokeebmdceaaStpI
import Derived.Test.YtdodokeebmdceaaStpC
import Derived.Test.YtdodokeebmdceaaPWI
import Derived.Test.YtdodokeebmdceaaOpenD
import Derived.WalkKit
import Derived.WalkLawsBesides
import Derived.WalkSpells
import Derived.ProofKit
import Derived.OpenShut
import Derived.Deep.RegionWith
import Derived.Deep.QuietTactic
import Derived.BigQuiet
namespace Go.Proofs.Ytdodokeebmdceaa
open Go.ChangeShapes Go.WideShapes Go.ChangeAt Go.RowKit
open Go.ChangeMaps (open_string shut_string)

namespace PWS
open Dice Arr DieW SortW FracW CutW All6 AllL OwnL FracM WgtM WgtW OpenG PhrM PhrW AnyR PhrV OvI GoalW OvS ChM ChG ChV StpS StpI StpC PWI


theorem nx2 {q : Nat} {w w1 w2 : World} (h : Below q w w1) (h2 : Below w1.heap.size w1 w2) (hq : q ≤ w1.heap.size) : Below q w w2 := h.trans (h2.mono hq)
theorem ps_bd {p : Nat → Bool} {G : Nat → Nat} {B : Nat} : ∀ {a : Nat}, (∀ s, s < a → G s ≤ B) → ps p G a ≤ a * B
  | 0, _ => by show (0 : Nat) ≤ _; omega
  | a + 1, h => by
    have h1 := ps_bd (p := p) (a := a) fun s hs => h s (by omega)
    have h2 := h a (by omega)
    show ps p G a + (if p a then G a else 0) ≤ (a + 1) * B
    rw [Nat.succ_mul]
    split <;> omega
def dn (hit : Nat → Nat → Bool) (F : Nat → Nat) (C a j : Nat) : Nat := 6 * C + ps (fun _ => true) (fun s => F s * hc hit s 6) a + F a * hc hit a j
def nx' (hit : Nat → Nat → Bool) (to : Nat → Nat → Nat) (F : Nat → Nat) (a j t : Nat) : Nat := ps (fun _ => true) (fun s => F s * tc hit to s t 6) a + F a * tc hit to a t j
theorem dn_00 (hit : Nat → Nat → Bool) (F : Nat → Nat) (C : Nat) : dn hit F C 0 0 = 6 * C := rfl
theorem dn_next (hit : Nat → Nat → Bool) (F : Nat → Nat) (C a : Nat) : dn hit F C a 6 = dn hit F C (a + 1) 0 := by
  show 6 * C + ps _ _ a + F a * hc hit a 6 = 6 * C + (ps _ _ a + F a * hc hit a 6) + F (a + 1) * 0
  omega
theorem dn_end (hit : Nat → Nat → Bool) (to : Nat → Nat → Nat) (S i : Nat) : dn hit (wy hit to S i) (cm hit to S i) S 0 = cm hit to S (i + 1) := rfl
theorem dn_hit {hit : Nat → Nat → Bool} {F : Nat → Nat} {C a j : Nat} (h : hit a j = true) : dn hit F C a (j + 1) = dn hit F C a j + F a := by
  show 6 * C + ps _ _ a + F a * (hc hit a j + if hit a j then 1 else 0) = 6 * C + ps _ _ a + F a * hc hit a j + F a
  rw [if_pos h, Nat.mul_add]
  omega
theorem dn_miss {hit : Nat → Nat → Bool} {F : Nat → Nat} {C a j : Nat} (h : hit a j = false) : dn hit F C a (j + 1) = dn hit F C a j := by
  show 6 * C + ps _ _ a + F a * (hc hit a j + if hit a j then 1 else 0) = _
  rw [if_neg (by rw [h]; decide)]
  rfl
theorem nx_00 (hit : Nat → Nat → Bool) (to : Nat → Nat → Nat) (F : Nat → Nat) (t : Nat) : nx' hit to F 0 0 t = 0 := rfl
theorem nx_next (hit : Nat → Nat → Bool) (to : Nat → Nat → Nat) (F : Nat → Nat) (a t : Nat) : nx' hit to F a 6 t = nx' hit to F (a + 1) 0 t := by
  show ps _ _ a + F a * tc hit to a t 6 = (ps _ _ a + F a * tc hit to a t 6) + F (a + 1) * 0
  omega
theorem nx_end (hit : Nat → Nat → Bool) (to : Nat → Nat → Nat) (S i t : Nat) : nx' hit to (wy hit to S i) S 0 t = wy hit to S (i + 1) t := rfl
theorem nx_hit {hit : Nat → Nat → Bool} {to : Nat → Nat → Nat} {F : Nat → Nat} {a j : Nat} (h : hit a j = true) (t : Nat) : nx' hit to F a (j + 1) t = nx' hit to F a j t := by
  show ps _ _ a + F a * (tc hit to a t j + if hit a j = false ∧ to a j = t then 1 else 0) = _
  rw [if_neg fun q => (by rw [h] at q; exact Bool.noConfusion q.1)]
  rfl
theorem nx_miss {hit : Nat → Nat → Bool} {to : Nat → Nat → Nat} {F : Nat → Nat} {a j : Nat} (h : hit a j = false) (t : Nat) : nx' hit to F a (j + 1) t = nx' hit to F a j t + if t = to a j then F a else 0 := by
  show ps _ _ a + F a * (tc hit to a t j + if hit a j = false ∧ to a j = t then 1 else 0) = ps _ _ a + F a * tc hit to a t j + _
  by_cases e : t = to a j
  · rw [if_pos ⟨h, e.symm⟩, if_pos e, Nat.mul_add]; omega
  · rw [if_neg fun q => e q.2.symm, if_neg e]; rfl
theorem put_nx {hit : Nat → Nat → Bool} {to : Nat → Nat → Nat} {F : Nat → Nat} {a j : Nat} (h : hit a j = false) (t : Nat) : put (fun t => (nx' hit to F a j t : Int)) (to a j) ((nx' hit to F a j (to a j) : Nat) + (F a : Nat)) t = (nx' hit to F a (j + 1) t : Int) := by
  rw [nx_miss h]
  by_cases e : t = to a j
  · subst e
    rw [show put _ (to a j) _ (to a j) = _ from if_pos rfl, if_pos rfl]
    push_cast
    rfl
  · rw [show put _ (to a j) _ t = _ from if_neg e, if_neg e]
    rfl
theorem small {hit : Nat → Nat → Bool} {to : Nat → Nat → Nat} {F : Nat → Nat} {C S a j : Nat} (hC : C ≤ 2176782336) (hF : ∀ s, s < S → F s ≤ 2176782336) (hS : S ≤ 6) (ha : a < S) (hj : j ≤ 6) :
    dn hit F C a j ≤ 100000000000 ∧ ∀ t, nx' hit to F a j t ≤ 100000000000 := by
  have hb := hF a ha
  have m1 : ∀ x, x ≤ 6 → F a * x ≤ 2176782336 * 6 := fun x hx => Nat.mul_le_mul hb hx
  have e1 := m1 _ (Nat.le_trans (hc_le hit a j) hj)
  have e2 : ps (fun _ => true) (fun s => F s * hc hit s 6) a ≤ a * (2176782336 * 6) := ps_bd fun s hs => Nat.mul_le_mul (hF s (by omega)) (hc_le hit s 6)
  have e3 : a * (2176782336 * 6) ≤ 5 * (2176782336 * 6) := Nat.mul_le_mul_right _ (by omega)
  refine ⟨by unfold dn; omega, fun t => ?_⟩
  have e4 := m1 _ (Nat.le_trans (tc_le hit to a t j) hj)
  have e5 : ps (fun _ => true) (fun s => F s * tc hit to s t 6) a ≤ a * (2176782336 * 6) := ps_bd fun s hs => Nat.mul_le_mul (hF s (by omega)) (tc_le hit to s t 6)
  unfold nx'
  omega

set_option maxRecDepth 100000 in
set_option maxHeartbeats 8000000 in
theorem specPW_any (d : Nat → Int) (gb m : Nat) (f : Nat → Int) (n : Int) (w : World) (hA : At w gb m f) :
    Calls Try.prog 38 #[dv d, .slice (some ⟨gb, 0, none⟩) m m, .int .i64 n] w fun e w' => e = .returned (.tuple #[v2 (wx d m f n) (wz d m f n), .bool (okW d m f n)]) ∧ Below w.heap.size w w' := by
  have hp := fun w (h : At w gb m f) => specPh_any d (some ⟨gb, 0, none⟩) m m f w (row_at h)
  have hc := fun w => rolls_any d n w
  unfold dv at hc
  cases h1 : okPh d m f
  · have hok : okW d m f n = false := by simp [okW, h1]
    rw [hok, (w_no hok).1, (w_no hok).2]
    rw [h1] at hp
    unfold dv at hp
    have Hp := Lib.hid hp; clear hp hok h1 hc
    unfold dv
    have hB0 := na (na (n0 w) (sixO d 22)) (.cells #[.int .i64 0, .int .i64 0] 29)
    have hD0 := (At.new6 w d 22 rfl).past (.cells #[.int .i64 0, .int .i64 0] 29)
    have hA0 := (hA.past (sixO d 22)).past (.cells #[.int .i64 0, .int .i64 0] 29)
    have hR0 := At.new2 (w.alloc (sixO d 22)) 29
    rw [size_alloc] at hR0
    have hal := hA.lt
    clear hA
    obtain ⟨e0, e1, e2, e3, e4, e5⟩ := hD0.six
    go_enter Try.func38, Try.ntmps38
    go_wp2_with fail
    refine (Hp.out _ hA0).mono ?_
    rintro e w1 ⟨rfl, hb1⟩
    have hR1 := hR0.up hb1
    have hD1 := hD0.up hb1
    have hA1 := hA0.up hb1
    have hB1 := nx hB0 hb1
    clear e0 e1 e2 e3 e4 e5 hB0 hD0 hA0 hR0 hb1
    obtain ⟨e0, e1, e2, e3, e4, e5⟩ := hD1.six
    have hRX := hR1
    have c0 := hRX.cell 0 (by omega)
    have c1 := hRX.cell 1 (by omega)
    have z0 := hRX.free 0
    have z1 := hRX.free 1
    go_wp2_with fail
    refine ret_cell_tmp (b := w.heap.size + 1) (n := 2) (f := fr 0 0) Try.results38 rfl rfl Try.underlying29 (by kernel_rfl) (fin2' hRX _ _) rfl ⟨rfl, ?_⟩
    exact (hB1.setCell (p := ⟨w.heap.size + 1, 0, none⟩) (Nat.le_succ _) _).setCell (p := ⟨w.heap.size + 1, 1, none⟩) (Nat.le_succ _) _
  obtain ⟨hd, hm1, hm6, _⟩ := of_ph h1
  rw [h1] at hp
  unfold dv at hp
  have Hp := Lib.hid hp; clear hp
  by_cases hn : 0 ≤ n ∧ n ≤ 12
  case neg =>
    have hok : okW d m f n = false := by simp only [okW, h1, decide_eq_false hn, Bool.and_false]
    rw [hok, (w_no hok).1, (w_no hok).2]
    rw [show ChW.okC d n = false by simp only [ChW.okC, decide_eq_false hn, Bool.and_false]] at hc
    have Hc := Lib.hid hc; clear hc hok h1 hn
    unfold dv
    have hB0 := na (na (n0 w) (sixO d 22)) (.cells #[.int .i64 0, .int .i64 0] 29)
    have hD0 := (At.new6 w d 22 rfl).past (.cells #[.int .i64 0, .int .i64 0] 29)
    have hA0 := (hA.past (sixO d 22)).past (.cells #[.int .i64 0, .int .i64 0] 29)
    have hR0 := At.new2 (w.alloc (sixO d 22)) 29
    rw [size_alloc] at hR0
    have hal := hA.lt
    clear hA
    obtain ⟨e0, e1, e2, e3, e4, e5⟩ := hD0.six
    go_enter Try.func38, Try.ntmps38
    go_wp2_with fail
    refine (Hp.out _ hA0).mono ?_
    rintro e w1 ⟨rfl, hb1⟩
    have hR1 := hR0.up hb1
    have hD1 := hD0.up hb1
    have hA1 := hA0.up hb1
    have hB1 := nx hB0 hb1
    clear e0 e1 e2 e3 e4 e5 hB0 hD0 hA0 hR0 hb1
    obtain ⟨e0, e1, e2, e3, e4, e5⟩ := hD1.six
    go_wp2_with fail
    refine (Hc.out _).mono ?_
    rintro e w2 ⟨rfl, hb2⟩
    have hR2 := hR1.up hb2
    have hD2 := hD1.up hb2
    have hA2 := hA1.up hb2
    have hB2 := nx hB1 hb2
    clear e0 e1 e2 e3 e4 e5 hB1 hD1 hA1 hR1 hb2
    have hRX := hR2
    have c0 := hRX.cell 0 (by omega)
    have c1 := hRX.cell 1 (by omega)
    have z0 := hRX.free 0
    have z1 := hRX.free 1
    go_wp2_with fail
    refine ret_cell_tmp (b := w.heap.size + 1) (n := 2) (f := fr 0 0) Try.results38 rfl rfl Try.underlying29 (by kernel_rfl) (fin2' hRX _ _) rfl ⟨rfl, ?_⟩
    exact (hB2.setCell (p := ⟨w.heap.size + 1, 0, none⟩) (Nat.le_succ _) _).setCell (p := ⟨w.heap.size + 1, 1, none⟩) (Nat.le_succ _) _
  have hok : okW d m f n = true := by simp [okW, h1, hn]
  rw [hok, (w_yes hok).1, (w_yes hok).2]
  rw [show ChW.okC d n = true by simp [ChW.okC, hd, hn]] at hc
  have Hc := Lib.hid hc; clear hc
  obtain ⟨n, rfl⟩ : ∃ k : Nat, n = k := ⟨n.toNat, by omega⟩
  rw [Int.toNat_natCast]
  have hn12 : n ≤ 12 := by omega
  have hto : ∀ s k, s < m → hitP d f m s k = false → toP d f m s k < m := fun s k _ h => toP_lt h
  have hbd := fun i (hi : i ≤ 12) => bounds (hit := hitP d f m) (to := toP d f m) (S := m) hm1 hto hi
  have hbn := hbd n hn12
  have hstep := fun (a : Nat) (x : Int) (w : World) (h : At w gb m f) (ha : a < m) => specStep_any gb m f a x w h ⟨hm1, hm6⟩ ha
  have Hst : Hid (∀ a j, tp f m a (d j) = toP d f m a j) := fun _ _ => rfl
  have Hhit : Hid (∀ a j, hitP d f m a j = decide (toP d f m a j = m)) := fun _ _ => rfl
  have hall : ∀ w, Calls Try.prog 49 #[.int .i64 (n : Nat)] w fun e w' => e = .returned (.int .i64 (6 ^ n : Nat)) ∧ Below w.heap.size w w' := fun w => by
    refine (l2AllL n w (by omega)).mono ?_
    rintro e w' ⟨rfl, rfl⟩
    exact ⟨rfl, n0 _⟩
  have hcut : ∀ w, Calls Try.prog 54 #[.int .i64 (cm (hitP d f m) (toP d f m) m n : Nat), .int .i64 (6 ^ n : Nat)] w fun e w' => e = .returned (v2 (num (cm (hitP d f m) (toP d f m) m n) (6 ^ n) : Nat) (den (cm (hitP d f m) (toP d f m) m n) (6 ^ n) : Nat)) ∧ Below w.heap.size w w' := fun w => FracL.cutL _ _ w (by have := hbn.1; omega) (by have := hbn.2.2.1; omega) hbn.2.2.2.1
  generalize num (cm (hitP d f m) (toP d f m) m n) (6 ^ n) = x0 at *
  generalize den (cm (hitP d f m) (toP d f m) m n) (6 ^ n) = y0 at *
  generalize 6 ^ n = A6 at *
  generalize hitP d f m = hit at *
  generalize toP d f m = to at *
  have Hall := Lib.hid hall
  have Hcut := Lib.hid hcut
  have Hbd := Lib.hid hbd
  have Hto := Lib.hid hto
  have Hstep := Lib.hid hstep
  clear hall hcut hbd hto hstep hbn hok h1 hn hd
  unfold dv
  have hB0 := na (na (n0 w) (sixO d 22)) (.cells #[.int .i64 0, .int .i64 0] 29)
  have hD0 := (At.new6 w d 22 rfl).past (.cells #[.int .i64 0, .int .i64 0] 29)
  have hA0 := (hA.past (sixO d 22)).past (.cells #[.int .i64 0, .int .i64 0] 29)
  have hR0 := At.new2 (w.alloc (sixO d 22)) 29
  rw [size_alloc] at hR0
  have hal := hA.lt
  clear hA
  obtain ⟨e0, e1, e2, e3, e4, e5⟩ := hD0.six
  go_enter Try.func38, Try.ntmps38
  go_wp2_with fail
  refine (Hp.out _ hA0).mono ?_
  rintro e w1 ⟨rfl, hb1⟩
  have hR1 := hR0.up hb1
  have hD1 := hD0.up hb1
  have hA1 := hA0.up hb1
  have hB1 := nx hB0 hb1
  clear e0 e1 e2 e3 e4 e5 hB0 hD0 hA0 hR0 hb1
  obtain ⟨e0, e1, e2, e3, e4, e5⟩ := hD1.six
  go_wp2_with fail
  refine (Hc.out _).mono ?_
  rintro e w2 ⟨rfl, hb2⟩
  have hR2 := hR1.up hb2
  have hD2 := hD1.up hb2
  have hA2 := hA1.up hb2
  have hB2 := nx hB1 hb2
  clear e0 e1 e2 e3 e4 e5 hB1 hD1 hA1 hR1 hb2
  obtain ⟨w3, hr3, hN3, hb3⟩ := make_ints w2 m (by omega)
  have hA3 := hA2.up hb3
  have hD3 := hD2.up hb3
  have hR3 := hR2.up hb3
  have hB3 := nx hB2 hb3
  have hs2 := hB2.size
  have hrl := hR2.lt
  obtain ⟨q, hq⟩ : ∃ q, q = w2.heap.size := ⟨_, rfl⟩
  have hal2 := hA2.lt
  rw [← hq] at hr3 hN3 hs2 hrl hal2
  clear hA2 hD2 hR2 hB2 hb3
  have c0 := hN3.cell 0 (by omega)
  have z0 := hN3.free 0
  have Hq := Lib.hid hq; clear hq
  go_wp2_with fail
  have hN4 := (hN3.set (i := 0) (by omega) 1).congr (g := fun s => (wy hit to m 0 s : Int)) fun s _ => by
    show (if s = 0 then (1 : Int) else 0) = ((if s = 0 then 1 else 0 : Nat) : Int)
    split <;> rfl
  have hA4 := hA3.other (p := q) (by omega) 0 (.int .i64 1)
  have hD4 := hD3.other (p := q) (by omega) 0 (.int .i64 1)
  have hR4 := hR3.other (p := q) (by omega) 0 (.int .i64 1)
  have hB4 := hB3.setCell (p := ⟨q, 0, none⟩) (by show w.heap.size ≤ q; omega) (.int .i64 1)
  clear c0 z0 hN3 hA3 hD3 hR3 hB3 hr3
  go_loopw [8, 9, 10] (fun av cv iv wr => ∃ i q : Nat, i ≤ n ∧ iv = .int .i64 i ∧ av = .slice (some ⟨q, 0, none⟩) m m ∧ cv = .int .i64 (cm hit to m i : Nat) ∧ At wr q m (fun s => (wy hit to m i s : Int)) ∧ At wr gb m f ∧ At wr w.heap.size 6 d ∧ At wr (w.heap.size + 1) 2 (fun _ => 0) ∧ Below w.heap.size w wr) (fun _ _ iv _ => n - (intOf iv).toNat)
  case atStart => exact ⟨0, q, by omega, rfl, rfl, rfl, hN4, hA4, hD4, hR4, hB4⟩
  case round =>
    clear hN4 hA4 hD4 hR4 hB4 hs2 hrl hal2 Hq
    obtain ⟨W0, rfl⟩ : ∃ W0, W0 = wr := ⟨wr, rfl⟩
    obtain ⟨i, p, hi, rfl, rfl, rfl, hP, hA, hD, hR, hB⟩ := hrel
    by_cases hlt : i < n
    · have hit1 : decide ((i : Int) < (n : Int)) = true := decide_eq_true (by omega)
      obtain ⟨bc, bw, _, _, _⟩ := Hbd.out i (by omega)
      have Hce := Lib.hid (dn_end hit to m i)
      have Hwe := Lib.hid (nx_end hit to m i)
      generalize cm hit to m i = C at *
      obtain ⟨F, hF⟩ : ∃ F, F = wy hit to m i := ⟨_, rfl⟩
      rw [← hF] at hP bw Hce Hwe
      clear hF
      have Hsm := Lib.hid (fun a j (ha : a < m) (hj : j ≤ 6) => small (hit := hit) (to := to) (F := F) (C := C) (S := m) bc bw hm6 ha hj)
      have Hbw := Lib.hid bw; clear bw
      obtain ⟨w5, hr5, hN5, hb5⟩ := make_ints W0 m (by omega)
      obtain ⟨q2, hq2⟩ : ∃ q2, q2 = W0.heap.size := ⟨_, rfl⟩
      have hlp := hP.lt
      have hla := hA.lt
      have hld := hD.lt
      have hsz := hB.size
      rw [← hq2] at hr5 hN5 hb5 hlp hla hld hsz
      have Hq2 := Lib.hid hq2; clear hq2
      have hd00 := dn_00 hit F C
      have Hd00 := Lib.hid hd00; clear hd00
      go_wp2_with fail
      clear hr5
      go_loopw [9, 12] (fun cv av wr => ∃ a : Nat, a ≤ m ∧ av = .int .i64 a ∧ cv = .int .i64 (dn hit F C a 0 : Nat) ∧ At wr q2 m (fun t => (nx' hit to F a 0 t : Int)) ∧ Below q2 W0 wr) (fun _ av _ => m - (intOf av).toNat)
      case atStart => exact ⟨0, by omega, rfl, by rw [Hd00.out]; go_num, hN5.congr fun t _ => rfl, hb5⟩
      case round =>
        clear hN5 hb5
        obtain ⟨a, ha, rfl, rfl, hN, hBq⟩ := hrel
        by_cases halt : a < m
        · have hita : decide ((a : Int) < (m : Int)) = true := decide_eq_true (by omega)
          have hFa := Hbw.out a halt
          go_wp2_with fail
          go_loopw [9, 13] (fun cv jv wr => ∃ j : Nat, j ≤ 6 ∧ jv = .int .i64 j ∧ cv = .int .i64 (dn hit F C a j : Nat) ∧ At wr q2 m (fun t => (nx' hit to F a j t : Int)) ∧ Below q2 W0 wr) (fun _ jv _ => 6 - (intOf jv).toNat)
          case atStart => exact ⟨0, by omega, rfl, rfl, hN, hBq⟩
          case round =>
            clear hN hBq
            obtain ⟨j, hj, rfl, rfl, hN, hBq⟩ := hrel
            by_cases hj6 : j < 6
            · have hitj : decide ((j : Int) < 6) = true := decide_eq_true (by omega)
              have cj := (hD.below hld hBq).cell j hj6
              have hst := Hstep.out a (d j) _ (hA.below hla hBq) halt
              rw [Hst.out] at hst
              have hhj := Hhit.out a j
              obtain ⟨hs1, hs2⟩ := Hsm.out a j halt hj
              have hs3 := hs2 (to a j)
              have Hto1 := Lib.hid (Hto.out a j halt)
              have hHst := Lib.hid hst; clear hst
              by_cases hh : to a j = m
              · have hyes : hit a j = true := by rw [hhj]; exact decide_eq_true hh
                have hd := Lib.hid (dn_hit (F := F) (C := C) hyes)
                have hx := Lib.hid (fun t => nx_hit (to := to) (F := F) hyes t)
                have heq : ((to a j : Nat) : Int) == (m : Int) := by rw [hh]; simp
                clear hs2 hyes hhj hh
                generalize hT : to a j = T at *
                go_wp2_with fail
                refine hHst.out.mono ?_
                rintro e w6 ⟨rfl, hb6⟩
                have hB6 := nx2 hBq hb6 (Nat.le_of_lt hN.lt)
                have hN6 := hN.up hb6
                have ca := (hP.below hlp hB6).cell a halt
                clear cj
                go_wp2_with fail
                go_roundw
                case rel => exact ⟨j + 1, by omega, by go_num, by rw [hd.out]; go_num, hN6.congr fun t _ => by rw [hx.out], hB6⟩
                case measure => simp [intOf]; omega
              · have hno : hit a j = false := by rw [hhj]; exact decide_eq_false hh
                have hd := Lib.hid (dn_miss (F := F) (C := C) hno)
                have hx := Lib.hid (fun t => put_nx (F := F) (to := to) hno t)
                have hTl := Hto1.out hno
                have heq : (((to a j : Nat) : Int) == (m : Int)) = false := by simp; omega
                clear hs2 hno hhj hh
                generalize hT : to a j = T at *
                go_wp2_with fail
                refine hHst.out.mono ?_
                rintro e w6 ⟨rfl, hb6⟩
                have hB6 := nx2 hBq hb6 (Nat.le_of_lt hN.lt)
                have hN6 := hN.up hb6
                have ca := (hP.below hlp hB6).cell a halt
                have ct := hN6.cell T hTl
                have zt := hN6.free T
                clear cj
                go_wp2_with fail
                go_region
                all_goals
                  go_wp2_with fail
                  go_roundw
                  case rel => exact ⟨j + 1, by omega, by go_num, by rw [hd.out], ((hN6.set hTl _).congr fun t _ => hx.out t).drew, (hB6.setCell (p := ⟨q2, T, none⟩) (Nat.le_refl _) _).drew⟩
                  case measure => simp [intOf]; omega
            · obtain rfl : j = 6 := by omega
              have Hdx := Lib.hid (dn_next hit F C a)
              have Hnx := Lib.hid (nx_next hit to F a)
              go_wp2_with fail
              go_roundw
              case rel => exact ⟨a + 1, by omega, by go_num, by rw [Hdx.out], hN.congr fun t _ => by rw [Hnx.out], hBq⟩
              case measure => simp [intOf]; omega
        · obtain rfl : a = m := by omega
          have hita : decide ((a : Int) < (a : Int)) = false := decide_eq_false (by omega)
          go_wp2_with fail
          go_roundw
          case rel => exact ⟨i + 1, q2, by omega, by go_num, rfl, by rw [Hce.out], hN.congr fun t _ => by rw [Hwe.out], hA.below hla hBq, hD.below hld hBq, hR.below (by have := hR.lt; rw [Hq2.out]; exact this) hBq, hB.trans (hBq.mono hsz)⟩
          case measure => simp [intOf]; omega
    · obtain rfl : i = n := by omega
      have hit1 : decide ((i : Int) < (i : Int)) = false := decide_eq_false (by omega)
      generalize cm hit to m i = C at *
      go_wp2_with fail
      refine (Hall.out _).mono ?_
      rintro e w7 ⟨rfl, hb7⟩
      go_wp2_with fail
      refine (Hcut.out _).mono ?_
      rintro e w8 ⟨rfl, hb8⟩
      have hRX := (hR.up hb7).up hb8
      have hB8 := nx (nx hB hb7) hb8
      have c0 := hRX.cell 0 (by omega)
      have c1 := hRX.cell 1 (by omega)
      have z0 := hRX.free 0
      have z1 := hRX.free 1
      go_wp2_with fail
      refine ret_cell_tmp (b := w.heap.size + 1) (n := 2) (f := fr x0 y0) Try.results38 rfl rfl Try.underlying29 (by kernel_rfl) (fin2' hRX _ _) rfl ⟨rfl, ?_⟩
      exact (hB8.setCell (p := ⟨w.heap.size + 1, 0, none⟩) (Nat.le_succ _) _).setCell (p := ⟨w.heap.size + 1, 1, none⟩) (Nat.le_succ _) _


end PWS
end Go.Proofs.Ytdodokeebmdceaa
