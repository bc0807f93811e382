/-
  PhraseWithin by the program.
-/
import Derived.Test.YtdodokeebmdceaaRows
import Derived.Test.YtdodokeebmdceaaArr
import Derived.Test.YtdodokeebmdceaaAnyR
import Derived.Test.YtdodokeebmdceaaDieW
import Derived.Test.YtdodokeebmdceaaSortW
import Derived.Test.YtdodokeebmdceaaFracW
import Derived.Test.YtdodokeebmdceaaFracL
import Derived.Test.YtdodokeebmdceaaCutW
import Derived.Test.YtdodokeebmdceaaAll6
import Derived.Test.YtdodokeebmdceaaAllL
import Derived.Test.YtdodokeebmdceaaOwnL
import Derived.Test.YtdodokeebmdceaaFracM
import Derived.Test.YtdodokeebmdceaaWgtM
import Derived.Test.YtdodokeebmdceaaWgtW
import Derived.Test.YtdodokeebmdceaaShelfSl
import Derived.Test.YtdodokeebmdceaaOpenI
import Derived.Test.YtdodokeebmdceaaPhrM
import Derived.Test.YtdodokeebmdceaaPhrW
import Derived.Test.YtdodokeebmdceaaPhrV
import Derived.Test.YtdodokeebmdceaaOvI
import Derived.Test.YtdodokeebmdceaaGoalW
import Derived.Test.YtdodokeebmdceaaFracB2
import Derived.Test.YtdodokeebmdceaaOvS
import Derived.Test.YtdodokeebmdceaaChM
import Derived.Test.YtdodokeebmdceaaChW
import Derived.Test.YtdodokeebmdceaaChV
import Derived.Test.YtdodokeebmdceaaChG
import Derived.Test.YtdodokeebmdceaaStpS
import Derived.Test.YtdodokeebmdceaaStpI
import Derived.Test.YtdodokeebmdceaaStpC
import Derived.Test.YtdodokeebmdceaaOpenD
import Derived.WalkKit
import Derived.WalkLawsBesides
import Derived.WalkSpells
import Derived.ProofKit
import Derived.OpenShut
import Derived.Deep.RegionWith
import Derived.Deep.QuietTactic
import Derived.BigQuiet
namespace Go.Proofs.Ytdodokeebmdceaa
open Go.ChangeShapes Go.WideShapes Go.ChangeAt Go.RowKit
open Go.ChangeMaps (open_string shut_string)

namespace PWI
open Dice Arr DieW SortW FracW CutW All6 AllL OwnL FracM WgtM WgtW OpenG PhrM PhrW AnyR PhrV OvI GoalW OvS ChM ChG StpS StpI StpC


/-- The chance of a phrase within n rolls. -/
def hitP (d f : Nat → Int) (m : Nat) (s k : Nat) : Bool := decide (tp f m s (d k) = m)
def toP (d f : Nat → Int) (m : Nat) (s k : Nat) : Nat := tp f m s (d k)
def okW (d : Nat → Int) (m : Nat) (f : Nat → Int) (n : Int) : Bool := okPh d m f && decide (0 ≤ n ∧ n ≤ 12)
def wx (d : Nat → Int) (m : Nat) (f : Nat → Int) (n : Int) : Int := if okW d m f n then (num (cm (hitP d f m) (toP d f m) m n.toNat) (6 ^ n.toNat) : Nat) else 0
def wz (d : Nat → Int) (m : Nat) (f : Nat → Int) (n : Int) : Int := if okW d m f n then (den (cm (hitP d f m) (toP d f m) m n.toNat) (6 ^ n.toNat) : Nat) else 0
theorem w_no {d : Nat → Int} {m : Nat} {f : Nat → Int} {n : Int} (h : okW d m f n = false) : wx d m f n = 0 ∧ wz d m f n = 0 := by simp [wx, wz, h]
theorem w_yes {d : Nat → Int} {m : Nat} {f : Nat → Int} {n : Int} (h : okW d m f n = true) : wx d m f n = (num (cm (hitP d f m) (toP d f m) m n.toNat) (6 ^ n.toNat) : Nat) ∧ wz d m f n = (den (cm (hitP d f m) (toP d f m) m n.toNat) (6 ^ n.toNat) : Nat) := by simp [wx, wz, h]
theorem toP_lt {d f : Nat → Int} {m s k : Nat} (h : hitP d f m s k = false) : toP d f m s k < m := by
  have h1 := tp_le f m s (d k)
  unfold hitP at h
  have h2 := of_decide_eq_false h
  show tp f m s (d k) < m
  omega

set_option maxRecDepth 100000 in
set_option maxHeartbeats 4000000 in
theorem genNo_any (d : Nat → Int) (n : Int) (cap : Array Value) (w : World) (hd : isDie d = true) (hn : n < 0 ∨ 12 < n) :
    Calls Try.prog 60 #[dv d, .int .i64 n, .func (Fn.func 80) #[] cap] w fun e w' => e = .returned (.tuple #[v2 0 0, .bool false]) ∧ Below w.heap.size w w' := by
  have hc := fun w => implIsDie_any d w
  unfold dv at hc
  have Hc := Lib.hid hc; clear hc
  rw [hd] at Hc
  by_cases hn0 : n < 0
  · have hg : decide (n < 0) = true := decide_eq_true hn0
    clear hd hn
    unfold dv
    have hB0 := na (na (n0 w) (sixO d 22)) (.cells #[.int .i64 0, .int .i64 0] 29)
    have hD0 := (At.new6 w d 22 rfl).past (.cells #[.int .i64 0, .int .i64 0] 29)
    have hR0 := At.new2 (w.alloc (sixO d 22)) 29
    rw [size_alloc] at hR0
    obtain ⟨e0, e1, e2, e3, e4, e5⟩ := hD0.six
    go_enter Try.func60, Try.ntmps60
    go_wp2_with fail
    refine (Hc.out _).mono ?_
    rintro e w1 ⟨rfl, hb1⟩
    have hR1 := hR0.up hb1
    have hD1 := hD0.up hb1
    have hB1 := nx hB0 hb1
    clear e0 e1 e2 e3 e4 e5
    have hRX := hR1
    have c0 := hRX.cell 0 (by omega)
    have c1 := hRX.cell 1 (by omega)
    have z0 := hRX.free 0
    have z1 := hRX.free 1
    go_wp2_with fail
    refine ret_cell_tmp (b := w.heap.size + 1) (n := 2) (f := fr 0 0) Try.results60 rfl rfl Try.underlying29 (by kernel_rfl) (fin2' hRX _ _) rfl ⟨rfl, ?_⟩
    exact (hB1.setCell (p := ⟨w.heap.size + 1, 0, none⟩) (Nat.le_succ _) _).setCell (p := ⟨w.heap.size + 1, 1, none⟩) (Nat.le_succ _) _
  have hg : decide (n < 0) = false := decide_eq_false hn0
  have hg3 : decide (12 < n) = true := decide_eq_true (by omega)
  clear hd hn hn0
  unfold dv
  have hB0 := na (na (n0 w) (sixO d 22)) (.cells #[.int .i64 0, .int .i64 0] 29)
  have hD0 := (At.new6 w d 22 rfl).past (.cells #[.int .i64 0, .int .i64 0] 29)
  have hR0 := At.new2 (w.alloc (sixO d 22)) 29
  rw [size_alloc] at hR0
  obtain ⟨e0, e1, e2, e3, e4, e5⟩ := hD0.six
  go_enter Try.func60, Try.ntmps60
  go_wp2_with fail
  refine (Hc.out _).mono ?_
  rintro e w1 ⟨rfl, hb1⟩
  have hR1 := hR0.up hb1
  have hD1 := hD0.up hb1
  have hB1 := nx hB0 hb1
  clear e0 e1 e2 e3 e4 e5
  have hRX := hR1
  have c0 := hRX.cell 0 (by omega)
  have c1 := hRX.cell 1 (by omega)
  have z0 := hRX.free 0
  have z1 := hRX.free 1
  go_wp2_with fail
  refine ret_cell_tmp (b := w.heap.size + 1) (n := 2) (f := fr 0 0) Try.results60 rfl rfl Try.underlying29 (by kernel_rfl) (fin2' hRX _ _) rfl ⟨rfl, ?_⟩
  exact (hB1.setCell (p := ⟨w.heap.size + 1, 0, none⟩) (Nat.le_succ _) _).setCell (p := ⟨w.heap.size + 1, 1, none⟩) (Nat.le_succ _) _

set_option maxRecDepth 100000 in
set_option maxHeartbeats 4000000 in
theorem implPW_any (d : Nat → Int) (gb m : Nat) (f : Nat → Int) (n : Int) (w : World) (hA : At w gb m f) :
    Calls Try.prog 39 #[dv d, .slice (some ⟨gb, 0, none⟩) m m, .int .i64 n] w fun e w' => e = .returned (.tuple #[v2 (wx d m f n) (wz d m f n), .bool (okW d m f n)]) ∧ Below w.heap.size w w' := by
  have hp := fun w (h : At w gb m f) => implPh_any d (some ⟨gb, 0, none⟩) m m f w (row_at h)
  cases h1 : okPh d m f
  · have hok : okW d m f n = false := by simp [okW, h1]
    rw [hok, (w_no hok).1, (w_no hok).2]
    rw [h1] at hp
    unfold dv at hp
    have Hp := Lib.hid hp; clear hp hok h1
    have hmf : ∀ (fn : Fn) (first cap : Array Value) (w : World), (Instr.makeFunc fn first cap).run Try.prog w = .ok (.func fn first cap) w := fun _ _ _ _ => rfl
    unfold dv
    have hB0 := na (na (na (n0 w) (sixO d 22)) (.cells #[.slice (some ⟨gb, 0, none⟩) m m] 37)) (.cells #[.int .i64 0, .int .i64 0] 29)
    have hD0 := ((At.new6 w d 22 rfl).past (.cells #[.slice (some ⟨gb, 0, none⟩) m m] 37)).past (.cells #[.int .i64 0, .int .i64 0] 29)
    have hA0 := ((hA.past (sixO d 22)).past (.cells #[.slice (some ⟨gb, 0, none⟩) m m] 37)).past (.cells #[.int .i64 0, .int .i64 0] 29)
    have hR0 := At.new2 ((w.alloc (sixO d 22)).alloc (.cells #[.slice (some ⟨gb, 0, none⟩) m m] 37)) 29
    have hcn : (((w.alloc (sixO d 22)).alloc (.cells #[.slice (some ⟨gb, 0, none⟩) m m] 37)).alloc (.cells #[.int .i64 0, .int .i64 0] 29)).cell? ⟨w.heap.size + 1, 0, none⟩ = some (.slice (some ⟨gb, 0, none⟩) m m) := by
      have h1 := cell_one (w.alloc (sixO d 22)) (.slice (some ⟨gb, 0, none⟩) m m) 37
      rw [size_alloc] at h1
      have h2 := (na (n0 ((w.alloc (sixO d 22)).alloc (.cells #[.slice (some ⟨gb, 0, none⟩) m m] 37))) (.cells #[.int .i64 0, .int .i64 0] 29)).cell (p := ⟨w.heap.size + 1, 0, none⟩) (by show w.heap.size + 1 < _; rw [size_alloc, size_alloc]; omega)
      exact h2.trans h1
    have hlt : w.heap.size + 1 < (((w.alloc (sixO d 22)).alloc (.cells #[.slice (some ⟨gb, 0, none⟩) m m] 37)).alloc (.cells #[.int .i64 0, .int .i64 0] 29)).heap.size := by rw [size_alloc, size_alloc, size_alloc]; omega
    rw [size_alloc, size_alloc] at hR0
    clear hA
    obtain ⟨e0, e1, e2, e3, e4, e5⟩ := hD0.six
    go_enter Try.func39, Try.ntmps39
    go_wp2_with fail
    refine (Hp.out _ hA0).mono ?_
    rintro e w1 ⟨rfl, hb1⟩
    have hR1 := hR0.up hb1
    have hD1 := hD0.up hb1
    have hA1 := hA0.up hb1
    have hB1 := nx hB0 hb1
    have hcn1 := (hb1.cell (p := ⟨w.heap.size + 1, 0, none⟩) hlt).trans hcn
    have hlt1 := Nat.lt_of_lt_of_le hlt hb1.size
    clear e0 e1 e2 e3 e4 e5 hB0 hD0 hA0 hR0 hcn hlt
    have hRX := hR1
    have c0 := hRX.cell 0 (by omega)
    have c1 := hRX.cell 1 (by omega)
    have z0 := hRX.free 0
    have z1 := hRX.free 1
    go_wp2_with fail
    refine ret_cell_tmp (b := w.heap.size + 1 + 1) (n := 2) (f := fr 0 0) Try.results39 rfl rfl Try.underlying29 (by kernel_rfl) (fin2' hRX _ _) rfl ⟨rfl, ?_⟩
    exact (hB1.setCell (p := ⟨w.heap.size + 1 + 1, 0, none⟩) (by show w.heap.size ≤ w.heap.size + 1 + 1; omega) _).setCell (p := ⟨w.heap.size + 1 + 1, 1, none⟩) (by show w.heap.size ≤ w.heap.size + 1 + 1; omega) _
  obtain ⟨hd, hm1, hm6, _⟩ := of_ph h1
  rw [h1] at hp
  unfold dv at hp
  have Hp := Lib.hid hp; clear hp
  by_cases hn : 0 ≤ n ∧ n ≤ 12
  · have hok : okW d m f n = true := by simp [okW, h1, hn]
    rw [hok, (w_yes hok).1, (w_yes hok).2]
    obtain ⟨k, rfl⟩ : ∃ k : Nat, n = k := ⟨n.toNat, by omega⟩
    rw [Int.toNat_natCast]
    have hgen : ∀ v, At v gb m f → v.cell? ⟨w.heap.size + 1, 0, none⟩ = some (.slice (some ⟨gb, 0, none⟩) m m) → w.heap.size + 1 < v.heap.size → _ := fun v h2 h3 h4 => implGen_any d k m (hitP d f m) (toP d f m) #[.pointer (some ⟨w.heap.size + 1, 0, none⟩)] v hd (by omega) (by omega) (by omega) (fun s j _ h => toP_lt h)
      (fun w' hb s j hs hj => closure_any gb m (w.heap.size + 1) f s (d j) w' (h2.up hb) ((hb.cell (p := ⟨w.heap.size + 1, 0, none⟩) h4).trans h3) (Nat.lt_of_lt_of_le h4 hb.size) ⟨hm1, hm6⟩ hs)
    generalize num (cm (hitP d f m) (toP d f m) m k) (6 ^ k) = x0 at *
    generalize den (cm (hitP d f m) (toP d f m) m k) (6 ^ k) = y0 at *
    unfold dv at hgen
    have Hg := Lib.hid hgen
    clear hgen hok h1 hn
    have hmf : ∀ (fn : Fn) (first cap : Array Value) (w : World), (Instr.makeFunc fn first cap).run Try.prog w = .ok (.func fn first cap) w := fun _ _ _ _ => rfl
    unfold dv
    have hB0 := na (na (na (n0 w) (sixO d 22)) (.cells #[.slice (some ⟨gb, 0, none⟩) m m] 37)) (.cells #[.int .i64 0, .int .i64 0] 29)
    have hD0 := ((At.new6 w d 22 rfl).past (.cells #[.slice (some ⟨gb, 0, none⟩) m m] 37)).past (.cells #[.int .i64 0, .int .i64 0] 29)
    have hA0 := ((hA.past (sixO d 22)).past (.cells #[.slice (some ⟨gb, 0, none⟩) m m] 37)).past (.cells #[.int .i64 0, .int .i64 0] 29)
    have hR0 := At.new2 ((w.alloc (sixO d 22)).alloc (.cells #[.slice (some ⟨gb, 0, none⟩) m m] 37)) 29
    have hcn : (((w.alloc (sixO d 22)).alloc (.cells #[.slice (some ⟨gb, 0, none⟩) m m] 37)).alloc (.cells #[.int .i64 0, .int .i64 0] 29)).cell? ⟨w.heap.size + 1, 0, none⟩ = some (.slice (some ⟨gb, 0, none⟩) m m) := by
      have h1 := cell_one (w.alloc (sixO d 22)) (.slice (some ⟨gb, 0, none⟩) m m) 37
      rw [size_alloc] at h1
      have h2 := (na (n0 ((w.alloc (sixO d 22)).alloc (.cells #[.slice (some ⟨gb, 0, none⟩) m m] 37))) (.cells #[.int .i64 0, .int .i64 0] 29)).cell (p := ⟨w.heap.size + 1, 0, none⟩) (by show w.heap.size + 1 < _; rw [size_alloc, size_alloc]; omega)
      exact h2.trans h1
    have hlt : w.heap.size + 1 < (((w.alloc (sixO d 22)).alloc (.cells #[.slice (some ⟨gb, 0, none⟩) m m] 37)).alloc (.cells #[.int .i64 0, .int .i64 0] 29)).heap.size := by rw [size_alloc, size_alloc, size_alloc]; omega
    rw [size_alloc, size_alloc] at hR0
    clear hA
    obtain ⟨e0, e1, e2, e3, e4, e5⟩ := hD0.six
    go_enter Try.func39, Try.ntmps39
    go_wp2_with fail
    refine (Hp.out _ hA0).mono ?_
    rintro e w1 ⟨rfl, hb1⟩
    have hR1 := hR0.up hb1
    have hD1 := hD0.up hb1
    have hA1 := hA0.up hb1
    have hB1 := nx hB0 hb1
    have hcn1 := (hb1.cell (p := ⟨w.heap.size + 1, 0, none⟩) hlt).trans hcn
    have hlt1 := Nat.lt_of_lt_of_le hlt hb1.size
    clear e0 e1 e2 e3 e4 e5 hB0 hD0 hA0 hR0 hcn hlt
    obtain ⟨e0, e1, e2, e3, e4, e5⟩ := hD1.six
    go_wp2_with fail
    refine (Hg.out _ hA1 hcn1 hlt1).mono ?_
    rintro e w2 ⟨rfl, hb2⟩
    have hRX := hR1.up hb2
    have hB2 := nx hB1 hb2
    clear e0 e1 e2 e3 e4 e5 hcn1 hlt1 hR1 hD1 hA1 hB1
    have c0 := hRX.cell 0 (by omega)
    have c1 := hRX.cell 1 (by omega)
    have z0 := hRX.free 0
    have z1 := hRX.free 1
    go_wp2_with fail
    refine ret_cell_tmp (b := w.heap.size + 1 + 1) (n := 2) (f := fr x0 y0) Try.results39 rfl rfl Try.underlying29 (by kernel_rfl) (fin2' hRX _ _) rfl ⟨rfl, ?_⟩
    exact (hB2.setCell (p := ⟨w.heap.size + 1 + 1, 0, none⟩) (by show w.heap.size ≤ w.heap.size + 1 + 1; omega) _).setCell (p := ⟨w.heap.size + 1 + 1, 1, none⟩) (by show w.heap.size ≤ w.heap.size + 1 + 1; omega) _
  · have hok : okW d m f n = false := by simp only [okW, h1, decide_eq_false hn, Bool.and_false]
    rw [hok, (w_no hok).1, (w_no hok).2]
    have hgen := fun v => genNo_any d n #[.pointer (some ⟨w.heap.size + 1, 0, none⟩)] v hd (by omega)
    unfold dv at hgen
    have Hg := Lib.hid hgen
    clear hgen hok h1 hn
    have hmf : ∀ (fn : Fn) (first cap : Array Value) (w : World), (Instr.makeFunc fn first cap).run Try.prog w = .ok (.func fn first cap) w := fun _ _ _ _ => rfl
    unfold dv
    have hB0 := na (na (na (n0 w) (sixO d 22)) (.cells #[.slice (some ⟨gb, 0, none⟩) m m] 37)) (.cells #[.int .i64 0, .int .i64 0] 29)
    have hD0 := ((At.new6 w d 22 rfl).past (.cells #[.slice (some ⟨gb, 0, none⟩) m m] 37)).past (.cells #[.int .i64 0, .int .i64 0] 29)
    have hA0 := ((hA.past (sixO d 22)).past (.cells #[.slice (some ⟨gb, 0, none⟩) m m] 37)).past (.cells #[.int .i64 0, .int .i64 0] 29)
    have hR0 := At.new2 ((w.alloc (sixO d 22)).alloc (.cells #[.slice (some ⟨gb, 0, none⟩) m m] 37)) 29
    have hcn : (((w.alloc (sixO d 22)).alloc (.cells #[.slice (some ⟨gb, 0, none⟩) m m] 37)).alloc (.cells #[.int .i64 0, .int .i64 0] 29)).cell? ⟨w.heap.size + 1, 0, none⟩ = some (.slice (some ⟨gb, 0, none⟩) m m) := by
      have h1 := cell_one (w.alloc (sixO d 22)) (.slice (some ⟨gb, 0, none⟩) m m) 37
      rw [size_alloc] at h1
      have h2 := (na (n0 ((w.alloc (sixO d 22)).alloc (.cells #[.slice (some ⟨gb, 0, none⟩) m m] 37))) (.cells #[.int .i64 0, .int .i64 0] 29)).cell (p := ⟨w.heap.size + 1, 0, none⟩) (by show w.heap.size + 1 < _; rw [size_alloc, size_alloc]; omega)
      exact h2.trans h1
    have hlt : w.heap.size + 1 < (((w.alloc (sixO d 22)).alloc (.cells #[.slice (some ⟨gb, 0, none⟩) m m] 37)).alloc (.cells #[.int .i64 0, .int .i64 0] 29)).heap.size := by rw [size_alloc, size_alloc, size_alloc]; omega
    rw [size_alloc, size_alloc] at hR0
    clear hA
    obtain ⟨e0, e1, e2, e3, e4, e5⟩ := hD0.six
    go_enter Try.func39, Try.ntmps39
    go_wp2_with fail
    refine (Hp.out _ hA0).mono ?_
    rintro e w1 ⟨rfl, hb1⟩
    have hR1 := hR0.up hb1
    have hD1 := hD0.up hb1
    have hA1 := hA0.up hb1
    have hB1 := nx hB0 hb1
    have hcn1 := (hb1.cell (p := ⟨w.heap.size + 1, 0, none⟩) hlt).trans hcn
    have hlt1 := Nat.lt_of_lt_of_le hlt hb1.size
    clear e0 e1 e2 e3 e4 e5 hB0 hD0 hA0 hR0 hcn hlt
    obtain ⟨e0, e1, e2, e3, e4, e5⟩ := hD1.six
    go_wp2_with fail
    refine (Hg.out _).mono ?_
    rintro e w2 ⟨rfl, hb2⟩
    have hRX := hR1.up hb2
    have hB2 := nx hB1 hb2
    clear e0 e1 e2 e3 e4 e5 hcn1 hlt1 hR1 hD1 hA1 hB1
    have c0 := hRX.cell 0 (by omega)
    have c1 := hRX.cell 1 (by omega)
    have z0 := hRX.free 0
    have z1 := hRX.free 1
    go_wp2_with fail
    refine ret_cell_tmp (b := w.heap.size + 1 + 1) (n := 2) (f := fr 0 0) Try.results39 rfl rfl Try.underlying29 (by kernel_rfl) (fin2' hRX _ _) rfl ⟨rfl, ?_⟩
    exact (hB2.setCell (p := ⟨w.heap.size + 1 + 1, 0, none⟩) (by show w.heap.size ≤ w.heap.size + 1 + 1; omega) _).setCell (p := ⟨w.heap.size + 1 + 1, 1, none⟩) (by show w.heap.size ≤ w.heap.size + 1 + 1; omega) _


end PWI
end Go.Proofs.Ytdodokeebmdceaa
