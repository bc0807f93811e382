/-
  PhraseFirst of the model.
-/
import Derived.Test.YtdodokeebmdceaaRows
import Derived.Test.YtdodokeebmdceaaArr
import Derived.Test.YtdodokeebmdceaaAnyR
import Derived.Test.YtdodokeebmdceaaDieW
import Derived.Test.YtdodokeebmdceaaSortW
import Derived.Test.YtdodokeebmdceaaFracW
import Derived.Test.YtdodokeebmdceaaFracL
import Derived.Test.YtdodokeebmdceaaCutW
import Derived.Test.YtdodokeebmdceaaAll6
import Derived.Test.YtdodokeebmdceaaAllL
import Derived.Test.YtdodokeebmdceaaOwnL
import Derived.Test.YtdodokeebmdceaaFracM
import Derived.Test.YtdodokeebmdceaaWgtM
import Derived.Test.YtdodokeebmdceaaWgtW
import Derived.Test.YtdodokeebmdceaaShelfSl
import Derived.Test.YtdodokeebmdceaaOpenI
import Derived.Test.YtdodokeebmdceaaPhrM
import Derived.Test.YtdodokeebmdceaaPhrW
import Derived.Test.YtdodokeebmdceaaPhrV
import Derived.Test.YtdodokeebmdceaaOvI
import Derived.Test.YtdodokeebmdceaaGoalW
import Derived.Test.YtdodokeebmdceaaFracB2
import Derived.Test.YtdodokeebmdceaaOvS
import Derived.Test.YtdodokeebmdceaaPOv
import Derived.Test.YtdodokeebmdceaaStrW
import Derived.Test.YtdodokeebmdceaaFirstM
import Derived.Test.YtdodokeebmdceaaFracB3
import Derived.Test.YtdodokeebmdceaaAnyR
import Derived.Test.YtdodokeebmdceaaGoalW
import Derived.Test.YtdodokeebmdceaaBurI
import Derived.Test.YtdodokeebmdceaaFirN
import Derived.Test.YtdodokeebmdceaaOvS
import Derived.Test.YtdodokeebmdceaaOpenD
import Derived.WalkKit
import Derived.WalkLawsBesides
import Derived.WalkSpells
import Derived.ProofKit
import Derived.OpenShut
import Derived.Deep.RegionWith
import Derived.Deep.QuietTactic
import Derived.BigQuiet
namespace Go.Proofs.Ytdodokeebmdceaa
open Go.ChangeShapes Go.WideShapes Go.ChangeAt Go.RowKit
open Go.ChangeMaps (open_string shut_string)

namespace FirS
open Dice Arr DieW SortW FracW CutW All6 AllL OwnL FracM WgtM WgtW OpenG PhrM PhrW AnyR PhrV OvI GoalW POv StrW FirstM OvS FirN GoalW AnyR

def frP (d : Nat → Int) (ga n gb m h : Nat) (u8 u32 u33 u34 u35 u36 u37 u38 u39 u40 : Value) : Act := ⟨#[(.agg #[.int .i64 (d 0), .int .i64 (d 1), .int .i64 (d 2), .int .i64 (d 3), .int .i64 (d 4), .int .i64 (d 5)]), .slice (some ⟨ga, 0, none⟩) n n, .slice (some ⟨gb, 0, none⟩) m m, .pointer (some ⟨h, 0, none⟩), undef, undef, .pointer (some ⟨h + 1, 0, none⟩), .bool false, u8, undef, undef, (.agg #[.int .i64 (d 0), .int .i64 (d 1), .int .i64 (d 2), .int .i64 (d 3), .int .i64 (d 4), .int .i64 (d 5)]), .slice (some ⟨ga, 0, none⟩) n n, .bool true, .bool false, .bool false, (.agg #[.int .i64 (d 0), .int .i64 (d 1), .int .i64 (d 2), .int .i64 (d 3), .int .i64 (d 4), .int .i64 (d 5)]), .slice (some ⟨gb, 0, none⟩) m m, .bool true, .bool false, .bool false, .bool false, .slice (some ⟨ga, 0, none⟩) n n, .slice (some ⟨gb, 0, none⟩) m m, .bool false, .bool false, .bool false, .slice (some ⟨gb, 0, none⟩) m m, .slice (some ⟨ga, 0, none⟩) n n, .bool false, .bool false, undef, u32, u33, u34, u35, u36, u37, u38, u39, u40, undef, undef, undef, undef, undef, undef, undef, undef, undef, undef, undef, undef, undef, undef, undef, undef, undef, undef, undef, undef, undef, undef, undef], []⟩
def frR (d : Nat → Int) (ga n gb m h : Nat) (q1 xbb ybb xba yba xa ya : Nat) (u9 u41 u42 u43 u44 u45 u46 u47 u48 u49 : Value) : Act := ⟨#[(.agg #[.int .i64 (d 0), .int .i64 (d 1), .int .i64 (d 2), .int .i64 (d 3), .int .i64 (d 4), .int .i64 (d 5)]), .slice (some ⟨ga, 0, none⟩) n n, .slice (some ⟨gb, 0, none⟩) m m, .pointer (some ⟨h, 0, none⟩), undef, undef, .pointer (some ⟨h + 1, 0, none⟩), .bool false, .pointer (some ⟨q1, 0, none⟩), u9, undef, (.agg #[.int .i64 (d 0), .int .i64 (d 1), .int .i64 (d 2), .int .i64 (d 3), .int .i64 (d 4), .int .i64 (d 5)]), .slice (some ⟨ga, 0, none⟩) n n, .bool true, .bool false, .bool false, (.agg #[.int .i64 (d 0), .int .i64 (d 1), .int .i64 (d 2), .int .i64 (d 3), .int .i64 (d 4), .int .i64 (d 5)]), .slice (some ⟨gb, 0, none⟩) m m, .bool true, .bool false, .bool false, .bool false, .slice (some ⟨ga, 0, none⟩) n n, .slice (some ⟨gb, 0, none⟩) m m, .bool false, .bool false, .bool false, .slice (some ⟨gb, 0, none⟩) m m, .slice (some ⟨ga, 0, none⟩) n n, .bool false, .bool false, undef, (.agg #[.int .i64 (d 0), .int .i64 (d 1), .int .i64 (d 2), .int .i64 (d 3), .int .i64 (d 4), .int .i64 (d 5)]), .slice (some ⟨gb, 0, none⟩) m m, .slice (some ⟨gb, 0, none⟩) m m, v2 xbb ybb, (.agg #[.int .i64 (d 0), .int .i64 (d 1), .int .i64 (d 2), .int .i64 (d 3), .int .i64 (d 4), .int .i64 (d 5)]), .slice (some ⟨gb, 0, none⟩) m m, .slice (some ⟨ga, 0, none⟩) n n, v2 xba yba, v2 xa ya, u41, u42, u43, u44, u45, u46, u47, u48, u49, undef, undef, undef, undef, undef, undef, undef, undef, undef, undef, undef, undef, undef, undef], []⟩

set_option maxRecDepth 100000 in
set_option maxHeartbeats 4000000 in
theorem specPF_any (d : Nat → Int) (ga n gb m : Nat) (fa fb : Nat → Int) (w : World) (hA : At w ga n fa) (hC : At w gb m fb) :
    Calls Try.prog 36 #[dv d, .slice (some ⟨ga, 0, none⟩) n n, .slice (some ⟨gb, 0, none⟩) m m] w fun e w' => e = .returned (.tuple #[v2 (qx d n fa m fb) (qy d n fa m fb), .bool (okF d n fa m fb)]) ∧ Below w.heap.size w w' := by
  have hc := fun (A : Option Addr) (k c : Nat) (f : Nat → Int) (w : World) (h : RowI w A k f) => specPh_any d A k c f w h
  unfold dv at hc
  have Hc := Lib.hid hc; clear hc
  have hpA := fun w (h : At w ga n fa) => Hc.out (some ⟨ga, 0, none⟩) n n fa w (row_at h)
  have hpC := fun w (h : At w gb m fb) => Hc.out (some ⟨gb, 0, none⟩) m m fb w (row_at h)
  clear Hc
  cases h1 : okPh d n fa
  · rw [h1] at hpA
    have HpA := Lib.hid hpA; clear hpA hpC
    have hok : okF d n fa m fb = false := by simp [okF, h1]
    rw [hok, (f_no hok).1, (f_no hok).2]
    clear hok
    clear h1
    unfold dv
    have hB0 := na (na (n0 w) (sixO d 22)) (.cells #[.int .i64 0, .int .i64 0] 29)
    have hD0 := (At.new6 w d 22 rfl).past (.cells #[.int .i64 0, .int .i64 0] 29)
    have hR0 := At.new2 (w.alloc (sixO d 22)) 29
    rw [size_alloc] at hR0
    obtain ⟨e0, e1, e2, e3, e4, e5⟩ := hD0.six
    have hA0 := (hA.past (sixO d 22)).past (.cells #[.int .i64 0, .int .i64 0] 29)
    have hC0 := (hC.past (sixO d 22)).past (.cells #[.int .i64 0, .int .i64 0] 29)
    have hgal := hA.lt
    have hgbl := hC.lt
    clear hA hC
    go_enter Try.func36, Try.ntmps36
    go_wp2_with fail
    refine (HpA.out _ hA0).mono ?_
    rintro e w1 ⟨rfl, hb1⟩
    have hR1 := hR0.up hb1
    have hD1 := hD0.up hb1
    have hA1 := hA0.up hb1
    have hC1 := hC0.up hb1
    have hB1 := nx hB0 hb1
    clear e0 e1 e2 e3 e4 e5
    have hRX := hR1
    have c0 := hRX.cell 0 (by omega)
    have c1 := hRX.cell 1 (by omega)
    have z0 := hRX.free 0
    have z1 := hRX.free 1
    go_wp2_with fail
    refine ret_cell_tmp (b := w.heap.size + 1) (n := 2) (f := fr 0 0) Try.results36 rfl rfl Try.underlying29 (by kernel_rfl) (fin2' hRX _ _) rfl ⟨rfl, ?_⟩
    exact (hB1.setCell (p := ⟨w.heap.size + 1, 0, none⟩) (Nat.le_succ _) _).setCell (p := ⟨w.heap.size + 1, 1, none⟩) (Nat.le_succ _) _
  rw [h1] at hpA
  have HpA := Lib.hid hpA; clear hpA
  cases h2 : okPh d m fb
  · rw [h2] at hpC
    have HpC := Lib.hid hpC; clear hpC
    have hok : okF d n fa m fb = false := by simp [okF, h1, h2]
    rw [hok, (f_no hok).1, (f_no hok).2]
    clear hok
    clear h1 h2
    unfold dv
    have hB0 := na (na (n0 w) (sixO d 22)) (.cells #[.int .i64 0, .int .i64 0] 29)
    have hD0 := (At.new6 w d 22 rfl).past (.cells #[.int .i64 0, .int .i64 0] 29)
    have hR0 := At.new2 (w.alloc (sixO d 22)) 29
    rw [size_alloc] at hR0
    obtain ⟨e0, e1, e2, e3, e4, e5⟩ := hD0.six
    have hA0 := (hA.past (sixO d 22)).past (.cells #[.int .i64 0, .int .i64 0] 29)
    have hC0 := (hC.past (sixO d 22)).past (.cells #[.int .i64 0, .int .i64 0] 29)
    have hgal := hA.lt
    have hgbl := hC.lt
    clear hA hC
    go_enter Try.func36, Try.ntmps36
    go_wp2_with fail
    refine (HpA.out _ hA0).mono ?_
    rintro e w1 ⟨rfl, hb1⟩
    have hR1 := hR0.up hb1
    have hD1 := hD0.up hb1
    have hA1 := hA0.up hb1
    have hC1 := hC0.up hb1
    have hB1 := nx hB0 hb1
    clear e0 e1 e2 e3 e4 e5
    obtain ⟨e0, e1, e2, e3, e4, e5⟩ := hD1.six
    go_wp2_with fail
    refine (HpC.out _ hC1).mono ?_
    rintro e w2 ⟨rfl, hb2⟩
    have hR2 := hR1.up hb2
    have hD2 := hD1.up hb2
    have hA2 := hA1.up hb2
    have hC2 := hC1.up hb2
    have hB2 := nx hB1 hb2
    clear e0 e1 e2 e3 e4 e5
    have hRX := hR2
    have c0 := hRX.cell 0 (by omega)
    have c1 := hRX.cell 1 (by omega)
    have z0 := hRX.free 0
    have z1 := hRX.free 1
    go_wp2_with fail
    refine ret_cell_tmp (b := w.heap.size + 1) (n := 2) (f := fr 0 0) Try.results36 rfl rfl Try.underlying29 (by kernel_rfl) (fin2' hRX _ _) rfl ⟨rfl, ?_⟩
    exact (hB2.setCell (p := ⟨w.heap.size + 1, 0, none⟩) (Nat.le_succ _) _).setCell (p := ⟨w.heap.size + 1, 1, none⟩) (Nat.le_succ _) _
  rw [h2] at hpC
  have HpC := Lib.hid hpC; clear hpC
  obtain ⟨_, hn1, hn6, hvA⟩ := of_ph h1
  obtain ⟨_, hm1, hm6, hvC⟩ := of_ph h2
  have hsA : ∀ w, At w ga n fa → At w gb m fb → _ := fun w hA hC => specSt_any ga n gb m fa fb w hA hC hn6 ⟨hm1, hm6⟩
  have hsB : ∀ w, At w ga n fa → At w gb m fb → _ := fun w hA hC => specSt_any gb m ga n fb fa w hC hA hm6 ⟨hn1, hn6⟩
  cases s2 : st fb m fa n m
  case true =>
    rw [s2] at hsB
    have HsB := Lib.hid hsB; clear hsB
    clear hsA
    have hok : okF d n fa m fb = false := by simp [okF, h1, h2, s2]
    rw [hok, (f_no hok).1, (f_no hok).2]
    clear hok
    clear h1 h2 hvA hvC s2
    unfold dv
    have hB0 := na (na (n0 w) (sixO d 22)) (.cells #[.int .i64 0, .int .i64 0] 29)
    have hD0 := (At.new6 w d 22 rfl).past (.cells #[.int .i64 0, .int .i64 0] 29)
    have hR0 := At.new2 (w.alloc (sixO d 22)) 29
    rw [size_alloc] at hR0
    obtain ⟨e0, e1, e2, e3, e4, e5⟩ := hD0.six
    have hA0 := (hA.past (sixO d 22)).past (.cells #[.int .i64 0, .int .i64 0] 29)
    have hC0 := (hC.past (sixO d 22)).past (.cells #[.int .i64 0, .int .i64 0] 29)
    have hgal := hA.lt
    have hgbl := hC.lt
    clear hA hC
    go_enter Try.func36, Try.ntmps36
    go_wp2_with fail
    refine (HpA.out _ hA0).mono ?_
    rintro e w1 ⟨rfl, hb1⟩
    have hR1 := hR0.up hb1
    have hD1 := hD0.up hb1
    have hA1 := hA0.up hb1
    have hC1 := hC0.up hb1
    have hB1 := nx hB0 hb1
    clear e0 e1 e2 e3 e4 e5
    obtain ⟨e0, e1, e2, e3, e4, e5⟩ := hD1.six
    go_wp2_with fail
    refine (HpC.out _ hC1).mono ?_
    rintro e w2 ⟨rfl, hb2⟩
    have hR2 := hR1.up hb2
    have hD2 := hD1.up hb2
    have hA2 := hA1.up hb2
    have hC2 := hC1.up hb2
    have hB2 := nx hB1 hb2
    clear e0 e1 e2 e3 e4 e5
    go_wp2_with fail
    refine (HsB.out _ hA2 hC2).mono ?_
    rintro e w3 ⟨rfl, hb3⟩
    have hR3 := hR2.up hb3
    have hD3 := hD2.up hb3
    have hA3 := hA2.up hb3
    have hC3 := hC2.up hb3
    have hB3 := nx hB2 hb3
    have hRX := hR3
    have c0 := hRX.cell 0 (by omega)
    have c1 := hRX.cell 1 (by omega)
    have z0 := hRX.free 0
    have z1 := hRX.free 1
    go_wp2_with fail
    refine ret_cell_tmp (b := w.heap.size + 1) (n := 2) (f := fr 0 0) Try.results36 rfl rfl Try.underlying29 (by kernel_rfl) (fin2' hRX _ _) rfl ⟨rfl, ?_⟩
    exact (hB3.setCell (p := ⟨w.heap.size + 1, 0, none⟩) (Nat.le_succ _) _).setCell (p := ⟨w.heap.size + 1, 1, none⟩) (Nat.le_succ _) _
  rw [s2] at hsB
  have HsB := Lib.hid hsB; clear hsB
  cases s1 : st fa n fb m n
  case true =>
    rw [s1] at hsA
    have HsA := Lib.hid hsA; clear hsA
    have hok : okF d n fa m fb = false := by simp [okF, h1, h2, s2, s1]
    rw [hok, (f_no hok).1, (f_no hok).2]
    clear hok
    clear h1 h2 hvA hvC s1 s2
    unfold dv
    have hB0 := na (na (n0 w) (sixO d 22)) (.cells #[.int .i64 0, .int .i64 0] 29)
    have hD0 := (At.new6 w d 22 rfl).past (.cells #[.int .i64 0, .int .i64 0] 29)
    have hR0 := At.new2 (w.alloc (sixO d 22)) 29
    rw [size_alloc] at hR0
    obtain ⟨e0, e1, e2, e3, e4, e5⟩ := hD0.six
    have hA0 := (hA.past (sixO d 22)).past (.cells #[.int .i64 0, .int .i64 0] 29)
    have hC0 := (hC.past (sixO d 22)).past (.cells #[.int .i64 0, .int .i64 0] 29)
    have hgal := hA.lt
    have hgbl := hC.lt
    clear hA hC
    go_enter Try.func36, Try.ntmps36
    go_wp2_with fail
    refine (HpA.out _ hA0).mono ?_
    rintro e w1 ⟨rfl, hb1⟩
    have hR1 := hR0.up hb1
    have hD1 := hD0.up hb1
    have hA1 := hA0.up hb1
    have hC1 := hC0.up hb1
    have hB1 := nx hB0 hb1
    clear e0 e1 e2 e3 e4 e5
    obtain ⟨e0, e1, e2, e3, e4, e5⟩ := hD1.six
    go_wp2_with fail
    refine (HpC.out _ hC1).mono ?_
    rintro e w2 ⟨rfl, hb2⟩
    have hR2 := hR1.up hb2
    have hD2 := hD1.up hb2
    have hA2 := hA1.up hb2
    have hC2 := hC1.up hb2
    have hB2 := nx hB1 hb2
    clear e0 e1 e2 e3 e4 e5
    go_wp2_with fail
    refine (HsB.out _ hA2 hC2).mono ?_
    rintro e w3 ⟨rfl, hb3⟩
    have hR3 := hR2.up hb3
    have hD3 := hD2.up hb3
    have hA3 := hA2.up hb3
    have hC3 := hC2.up hb3
    have hB3 := nx hB2 hb3
    go_wp2_with fail
    refine (HsA.out _ hA3 hC3).mono ?_
    rintro e w4 ⟨rfl, hb4⟩
    have hR4 := hR3.up hb4
    have hD4 := hD3.up hb4
    have hA4 := hA3.up hb4
    have hC4 := hC3.up hb4
    have hB4 := nx hB3 hb4
    have hRX := hR4
    have c0 := hRX.cell 0 (by omega)
    have c1 := hRX.cell 1 (by omega)
    have z0 := hRX.free 0
    have z1 := hRX.free 1
    go_wp2_with fail
    refine ret_cell_tmp (b := w.heap.size + 1) (n := 2) (f := fr 0 0) Try.results36 rfl rfl Try.underlying29 (by kernel_rfl) (fin2' hRX _ _) rfl ⟨rfl, ?_⟩
    exact (hB4.setCell (p := ⟨w.heap.size + 1, 0, none⟩) (Nat.le_succ _) _).setCell (p := ⟨w.heap.size + 1, 1, none⟩) (Nat.le_succ _) _
  rw [s1] at hsA
  have HsA := Lib.hid hsA; clear hsA
  have hok : okF d n fa m fb = true := by simp [okF, h1, h2, s1, s2]
  rw [hok, (f_yes hok).1, (f_yes hok).2]
  clear hok
  obtain ⟨wa1, wa2, nb1, nb2, hltA⟩ := first_facts (d := d) ⟨hn1, hn6⟩ ⟨hm1, hm6⟩ hvA hvC s1 s2
  obtain ⟨wb1, wb2, na1, na2, hltB⟩ := first_facts (d := d) ⟨hm1, hm6⟩ ⟨hn1, hn6⟩ hvC hvA s2 s1
  have hov : ∀ (g k g' k' : Nat) (f f' : Nat → Int) w, At w g k f → At w g' k' f' → (1 ≤ k ∧ k ≤ 6) → (1 ≤ k' ∧ k' ≤ 6) → (∀ i, i < k' → 1 ≤ wv d f' i) → Calls Try.prog 71 #[dv d, .slice (some ⟨g, 0, none⟩) k k, .slice (some ⟨g', 0, none⟩) k' k'] w fun e w' => e = .returned (v2 ((num (nO d k f k' f') (pr (wv d f') k') : Nat) : Int) ((den (nO d k f k' f') (pr (wv d f') k') : Nat) : Int)) ∧ Below w.heap.size w w' := fun g k g' k' f f' w h1 h2 h3 h4 h5 => specOv_any d g k g' k' f f' w h1 h2 h3 h4 h5
  have hbb := fun w (_ : At w ga n fa) (hC : At w gb m fb) => hov gb m gb m fb fb w hC hC ⟨hm1, hm6⟩ ⟨hm1, hm6⟩ hvC
  have hba := fun w (hA : At w ga n fa) (hC : At w gb m fb) => hov gb m ga n fb fa w hC hA ⟨hm1, hm6⟩ ⟨hn1, hn6⟩ hvA
  have haa := fun w (hA : At w ga n fa) (_ : At w gb m fb) => hov ga n ga n fa fa w hA hA ⟨hn1, hn6⟩ ⟨hn1, hn6⟩ hvA
  have hab := fun w (hA : At w ga n fa) (hC : At w gb m fb) => hov ga n gb m fa fb w hA hC ⟨hn1, hn6⟩ ⟨hm1, hm6⟩ hvC
  clear hov
  have hfA : fA d n fa m fb = nO d m fb m fb * pr (wv d fa) n - nO d m fb n fa * pr (wv d fb) m := rfl
  have hfB : fA d m fb n fa = nO d n fa n fa * pr (wv d fb) m - nO d n fa m fb * pr (wv d fa) n := rfl
  clear h1 h2 hvA hvC s1 s2
  generalize nO d m fb m fb = NBB at *
  generalize nO d m fb n fa = NBA at *
  generalize nO d n fa n fa = NAA at *
  generalize nO d n fa m fb = NAB at *
  generalize pr (wv d fa) n = WA at *
  generalize pr (wv d fb) m = WB at *
  generalize fA d n fa m fb = A at *
  generalize fA d m fb n fa = B at *
  obtain ⟨Z, hZ⟩ : ∃ Z, Z = WB * WA := ⟨_, rfl⟩
  have hZ1 : 1 ≤ Z := by rw [hZ]; exact Nat.mul_pos wb1 wa1
  have hZ2 : Z ≤ 15625 * 15625 := by rw [hZ]; exact Nat.mul_le_mul wb2 wa2
  have lA : A ≤ 279936 * 15625 := by rw [hfA]; exact Nat.le_trans (Nat.sub_le _ _) (Nat.mul_le_mul nb1 wa2)
  have lB : B ≤ 279936 * 15625 := by rw [hfB]; exact Nat.le_trans (Nat.sub_le _ _) (Nat.mul_le_mul na1 wb2)
  have tA : 1 ≤ A := by rw [hfA]; exact Nat.sub_pos_of_lt hltA
  have dn : ∀ a b : Nat, num a b ≤ a ∧ den a b ≤ b := fun a b => den_le_num
  have cA := minus_cut (a := NBB) (b := WB) (c := NBA) (d := WA) wb1 wa1 (Nat.le_of_lt hltA)
  have cB := minus_cut (a := NAA) (b := WA) (c := NAB) (d := WB) wa1 wb1 (Nat.le_of_lt hltB)
  rw [← hfA, ← hZ] at cA
  rw [← hfB, Nat.mul_comm WA WB, ← hZ] at cB
  have hm1' : ∀ w, Calls Try.prog 76 #[v2 ((num NBB WB : Nat) : Int) ((den NBB WB : Nat) : Int), v2 ((num NBA WA : Nat) : Int) ((den NBA WA : Nat) : Int)] w fun e w' => e = .returned (v2 ((num A Z : Nat) : Int) ((den A Z : Nat) : Int)) ∧ Below w.heap.size w w' := fun w => by
    have := FracB3.minus_any (num NBB WB) (den NBB WB) (num NBA WA) (den NBA WA) w (Nat.le_trans (Nat.mul_le_mul (Nat.le_trans (dn _ _).1 nb1) (Nat.le_trans (dn _ _).2 wa2)) (by decide)) cA.1 (Nat.le_trans (Nat.mul_le_mul (Nat.le_trans (dn _ _).2 wb2) (Nat.le_trans (dn _ _).2 wa2)) (by decide)) (Nat.mul_pos (den_pos wb1) (den_pos wa1))
    refine this.mono ?_
    rintro e w' ⟨he, hb⟩
    exact ⟨by rw [he, ← cA.2.1, ← cA.2.2]; rfl, hb⟩
  have hm2' : ∀ w, Calls Try.prog 76 #[v2 ((num NAA WA : Nat) : Int) ((den NAA WA : Nat) : Int), v2 ((num NAB WB : Nat) : Int) ((den NAB WB : Nat) : Int)] w fun e w' => e = .returned (v2 ((num B Z : Nat) : Int) ((den B Z : Nat) : Int)) ∧ Below w.heap.size w w' := fun w => by
    have := FracB3.minus_any (num NAA WA) (den NAA WA) (num NAB WB) (den NAB WB) w (Nat.le_trans (Nat.mul_le_mul (Nat.le_trans (dn _ _).1 na1) (Nat.le_trans (dn _ _).2 wb2)) (by decide)) cB.1 (Nat.le_trans (Nat.mul_le_mul (Nat.le_trans (dn _ _).2 wa2) (Nat.le_trans (dn _ _).2 wb2)) (by decide)) (Nat.mul_pos (den_pos wa1) (den_pos wb1))
    refine this.mono ?_
    rintro e w' ⟨he, hb⟩
    exact ⟨by rw [he, ← cB.2.1, ← cB.2.2]; rfl, hb⟩
  obtain ⟨T, hT⟩ : ∃ T, T = A + B := ⟨_, rfl⟩
  have tT : 1 ≤ T := by omega
  have hpl' : ∀ w, Calls Try.prog 77 #[v2 ((num A Z : Nat) : Int) ((den A Z : Nat) : Int), v2 ((num B Z : Nat) : Int) ((den B Z : Nat) : Int)] w fun e w' => e = .returned (v2 ((num T Z : Nat) : Int) ((den T Z : Nat) : Int)) ∧ Below w.heap.size w w' := fun w => by
    have c1 := plus_cut (a := A) (b := Z) (c := B) (d := Z) hZ1 hZ1
    have c2 := same_den (a := A) (c := B) (m := Z) hZ1
    rw [← hT] at c2
    have := FracB3.plus_any (num A Z) (den A Z) (num B Z) (den B Z) w (Nat.le_trans (Nat.add_le_add (Nat.mul_le_mul (Nat.le_trans (dn _ _).1 lA) (Nat.le_trans (dn _ _).2 hZ2)) (Nat.mul_le_mul (Nat.le_trans (dn _ _).1 lB) (Nat.le_trans (dn _ _).2 hZ2))) (by decide)) (Nat.le_trans (Nat.mul_le_mul (Nat.le_trans (dn _ _).2 hZ2) (Nat.le_trans (dn _ _).2 hZ2)) (by decide)) (Nat.mul_pos (den_pos hZ1) (den_pos hZ1))
    refine this.mono ?_
    rintro e w' ⟨he, hb⟩
    exact ⟨by rw [he, ← c2.1, ← c2.2, ← c1.1, ← c1.2]; rfl, hb⟩
  have lT : T ≤ 279936 * 15625 + 279936 * 15625 := by rw [hT]; exact Nat.add_le_add lA lB
  have rc := ratio_cut (A := A) (T := T) (Z := Z) hZ1 tT
  obtain ⟨X, hX⟩ : ∃ X, X = num A Z * den T Z := ⟨_, rfl⟩
  obtain ⟨Y, hY⟩ : ∃ Y, Y = den A Z * num T Z := ⟨_, rfl⟩
  have lX : X ≤ 279936 * 15625 * (15625 * 15625) := by rw [hX]; exact Nat.mul_le_mul (Nat.le_trans (dn _ _).1 lA) (Nat.le_trans (dn _ _).2 hZ2)
  have lY : Y ≤ 15625 * 15625 * (279936 * 15625 + 279936 * 15625) := by rw [hY]; exact Nat.mul_le_mul (Nat.le_trans (dn _ _).2 hZ2) (Nat.le_trans (dn _ _).1 lT)
  have tY : 1 ≤ Y := by rw [hY]; exact Nat.mul_pos (den_pos hZ1) rc.1
  rw [← hX, ← hY] at rc
  have hcut : ∀ w, Calls Try.prog 54 #[.int .i64 (X : Nat), .int .i64 (Y : Nat)] w fun e w' => e = .returned (v2 ((num A T : Nat) : Int) ((den A T : Nat) : Int)) ∧ Below w.heap.size w w' := fun w => by
    have := FracB3.cutB_any X Y w (Nat.le_trans lX (by decide)) (Nat.le_trans lY (by decide)) tY
    refine this.mono ?_
    rintro e w' ⟨he, hb⟩
    exact ⟨by rw [he, ← rc.2.1, ← rc.2.2]; rfl, hb⟩
  have HX := Lib.hid hX
  have HY := Lib.hid hY
  have lX' := Nat.le_trans lX (show 279936 * 15625 * (15625 * 15625) ≤ 9000000000000000000 by decide)
  have lY' := Nat.le_trans lY (show 15625 * 15625 * (279936 * 15625 + 279936 * 15625) ≤ 9000000000000000000 by decide)
  have QX := Lib.hid (FracB3.wrap_big (X : Int) (by omega) (by omega))
  have QY := Lib.hid (FracB3.wrap_big (Y : Int) (by omega) (by omega))
  have QX2 : Hid (wrap64 (X : Int) = (X : Int)) := by show wrap64 (X : Int) = (X : Int); unfold wrap64; omega
  have QY2 : Hid (wrap64 (Y : Int) = (Y : Int)) := by show wrap64 (Y : Int) = (Y : Int); unfold wrap64; omega
  rw [← hT]
  clear hT hX hY hfA hfB hltA hltB hZ lA lB lT tA tT cA cB rc lX lY lX' lY' hZ1 hZ2 tY wa1 wa2 wb1 wb2 nb1 nb2 na1 na2 dn
  unfold dv at hbb hba haa hab
  have Hbb := Lib.hid hbb; clear hbb
  have Hba := Lib.hid hba; clear hba
  have Haa := Lib.hid haa; clear haa
  have Hab := Lib.hid hab; clear hab
  have Hm1 := Lib.hid hm1'; clear hm1'
  have Hm2 := Lib.hid hm2'; clear hm2'
  have Hpl := Lib.hid hpl'; clear hpl'
  have Hcut := Lib.hid hcut; clear hcut
  generalize num A T = x0 at *
  generalize den A T = y0 at *
  generalize num NBB WB = xbb at *
  generalize den NBB WB = ybb at *
  generalize num NBA WA = xba at *
  generalize den NBA WA = yba at *
  generalize num NAA WA = xaa at *
  generalize den NAA WA = yaa at *
  generalize num NAB WB = xab at *
  generalize den NAB WB = yab at *
  generalize num A Z = xa at *
  generalize den A Z = ya at *
  generalize num B Z = xb at *
  generalize den B Z = yb at *
  generalize num T Z = sx at *
  generalize den T Z = sy at *
  have mX : (xa : Int) * (sy : Int) = (X : Int) := by rw [HX.out]; push_cast; rfl
  have mY : (ya : Int) * (sx : Int) = (Y : Int) := by rw [HY.out]; push_cast; rfl
  have qX := QX.out
  have qY := QY.out
  have qX2 := QX2.out
  have qY2 := QY2.out
  clear HX HY QX QY QX2 QY2
  unfold dv
  have hB0 := na (na (n0 w) (sixO d 22)) (.cells #[.int .i64 0, .int .i64 0] 29)
  have hD0 := (At.new6 w d 22 rfl).past (.cells #[.int .i64 0, .int .i64 0] 29)
  have hR0 := At.new2 (w.alloc (sixO d 22)) 29
  rw [size_alloc] at hR0
  obtain ⟨e0, e1, e2, e3, e4, e5⟩ := hD0.six
  have hA0 := (hA.past (sixO d 22)).past (.cells #[.int .i64 0, .int .i64 0] 29)
  have hC0 := (hC.past (sixO d 22)).past (.cells #[.int .i64 0, .int .i64 0] 29)
  have hgal := hA.lt
  have hgbl := hC.lt
  clear hA hC
  go_enter Try.func36, Try.ntmps36
  go_wp2_with fail
  refine (HpA.out _ hA0).mono ?_
  rintro e w1 ⟨rfl, hb1⟩
  have hR1 := hR0.up hb1
  have hD1 := hD0.up hb1
  have hA1 := hA0.up hb1
  have hC1 := hC0.up hb1
  have hB1 := nx hB0 hb1
  clear e0 e1 e2 e3 e4 e5
  obtain ⟨e0, e1, e2, e3, e4, e5⟩ := hD1.six
  go_wp2_with fail
  refine (HpC.out _ hC1).mono ?_
  rintro e w2 ⟨rfl, hb2⟩
  have hR2 := hR1.up hb2
  have hD2 := hD1.up hb2
  have hA2 := hA1.up hb2
  have hC2 := hC1.up hb2
  have hB2 := nx hB1 hb2
  clear e0 e1 e2 e3 e4 e5
  go_wp2_with fail
  refine (HsB.out _ hA2 hC2).mono ?_
  rintro e w3 ⟨rfl, hb3⟩
  have hR3 := hR2.up hb3
  have hD3 := hD2.up hb3
  have hA3 := hA2.up hb3
  have hC3 := hC2.up hb3
  have hB3 := nx hB2 hb3
  go_wp2_with fail
  refine (HsA.out _ hA3 hC3).mono ?_
  rintro e w4 ⟨rfl, hb4⟩
  have hR4 := hR3.up hb4
  have hD4 := hD3.up hb4
  have hA4 := hA3.up hb4
  have hC4 := hC3.up hb4
  have hB4 := nx hB3 hb4
  obtain ⟨W, hW⟩ : ∃ W, W = w4 := ⟨_, rfl⟩
  have hR := hR4
  have hD := hD4
  have hA := hA4
  have hC := hC4
  have hB := hB4
  rw [← hW] at hR hD hA hC hB ⊢
  clear hW hR0 hR1 hR2 hR3 hR4 hD0 hD1 hD2 hD3 hD4 hA0 hA1 hA2 hA3 hA4 hC0 hC1 hC2 hC3 hC4 hB0 hB1 hB2 hB3 hB4 hb1 hb2 hb3 hb4 HsA HsB HpA HpC
  go_wp2_with fail
  refine wp_region_inc (I := fun L az w' => ∃ u8 u32 u33 u34 u35 u36 u37 u38 u39 u40 : Value, az = frP d ga n gb m w.heap.size u8 u32 u33 u34 u35 u36 u37 u38 u39 u40 ∧ (L 0 = true → u32 = (.agg #[.int .i64 (d 0), .int .i64 (d 1), .int .i64 (d 2), .int .i64 (d 3), .int .i64 (d 4), .int .i64 (d 5)])) ∧ (L 1 = true → u33 = (.slice (some ⟨gb, 0, none⟩) m m)) ∧ (L 2 = true → u34 = (.slice (some ⟨gb, 0, none⟩) m m)) ∧ (L 3 = true → u35 = (v2 xbb ybb)) ∧ (L 4 = true → u36 = (.agg #[.int .i64 (d 0), .int .i64 (d 1), .int .i64 (d 2), .int .i64 (d 3), .int .i64 (d 4), .int .i64 (d 5)])) ∧ (L 5 = true → u37 = (.slice (some ⟨gb, 0, none⟩) m m)) ∧ (L 6 = true → u38 = (.slice (some ⟨ga, 0, none⟩) n n)) ∧ (L 7 = true → u39 = (v2 xba yba)) ∧ (L 8 = true → u40 = (v2 xa ya)) ∧ Below W.heap.size W w' ∧ (L 9 = true → ∃ q, u8 = .pointer (some ⟨q, 0, none⟩) ∧ W.heap.size ≤ q ∧ At w' q 2 (fun k => if L 10 = true then (fr xa ya) k else 0)) ∧ At w' w.heap.size 6 d ∧ At w' ga n fa ∧ At w' gb m fb ∧ At w' (w.heap.size + 1) 2 (fun _ => 0)) (by kernel_rfl) (by kernel_rfl) ?_ ?_ ?_
  · exact ⟨_, _, _, _, _, _, _, _, _, _, rfl, (fun h => by cases h), (fun h => by cases h), (fun h => by cases h), (fun h => by cases h), (fun h => by cases h), (fun h => by cases h), (fun h => by cases h), (fun h => by cases h), (fun h => by cases h), ((Below.refl _ W).drew), (fun h => by cases h), (hD).drew, (hA).drew, (hC).drew, (hR).drew⟩
  · intro L az wz i hi hL hdep hcl hI
    obtain ⟨u8, u32, u33, u34, u35, u36, u37, u38, u39, u40, rfl, e0, e1, e2, e3, e4, e5, e6, e7, e8, hB0, hA0, hK0, hK1, hK2, hK3⟩ := hI
    have hi' : i < 11 := hi
    clear hi
    obtain rfl | rfl | rfl | rfl | rfl | rfl | rfl | rfl | rfl | rfl | rfl : i = 0 ∨ i = 1 ∨ i = 2 ∨ i = 3 ∨ i = 4 ∨ i = 5 ∨ i = 6 ∨ i = 7 ∨ i = 8 ∨ i = 9 ∨ i = 10 := by omega
    · obtain ⟨y0, y1, y2, y3, y4, y5⟩ := hK0.six
      have HB := Lib.hid hB0; clear hB0
      have HK0 := Lib.hid hK0; clear hK0
      have HK1 := Lib.hid hK1; clear hK1
      have HK2 := Lib.hid hK2; clear hK2
      have HK3 := Lib.hid hK3; clear hK3
      refine wpOp_want rfl rfl ?_
      unfold frP
      go_simp
      exact ⟨u8, (.agg #[.int .i64 (d 0), .int .i64 (d 1), .int .i64 (d 2), .int .i64 (d 3), .int .i64 (d 4), .int .i64 (d 5)]), u33, u34, u35, u36, u37, u38, u39, u40, by first | rfl | simp, fun _ => rfl, e1, e2, e3, e4, e5, e6, e7, e8, HB.out, hA0, HK0.out, HK1.out, HK2.out, HK3.out⟩
    · refine wpOp_want rfl rfl (Oper.wp_of_quiet (C := fun w' => w' = wz) (K := fun a' => a' = frP d ga n gb m w.heap.size (u8) (u32) ((.slice (some ⟨gb, 0, none⟩) m m)) (u34) (u35) (u36) (u37) (u38) (u39) (u40)) rfl ?_ ?_)
      · intro a' w' hC' hK
        subst hK
        subst hC'
        exact ⟨u8, u32, (.slice (some ⟨gb, 0, none⟩) m m), u34, u35, u36, u37, u38, u39, u40, by first | rfl | simp, e0, fun _ => rfl, e2, e3, e4, e5, e6, e7, e8, hB0, hA0, hK0, hK1, hK2, hK3⟩
      · exact BigFrame.quiet_move _ rfl rfl
    · refine wpOp_want rfl rfl (Oper.wp_of_quiet (C := fun w' => w' = wz) (K := fun a' => a' = frP d ga n gb m w.heap.size (u8) (u32) (u33) ((.slice (some ⟨gb, 0, none⟩) m m)) (u35) (u36) (u37) (u38) (u39) (u40)) rfl ?_ ?_)
      · intro a' w' hC' hK
        subst hK
        subst hC'
        exact ⟨u8, u32, u33, (.slice (some ⟨gb, 0, none⟩) m m), u35, u36, u37, u38, u39, u40, by first | rfl | simp, e0, e1, fun _ => rfl, e3, e4, e5, e6, e7, e8, hB0, hA0, hK0, hK1, hK2, hK3⟩
      · exact BigFrame.quiet_move _ rfl rfl
    · obtain rfl := e0 (hdep 0 (by kernel_rfl))
      obtain rfl := e1 (hdep 1 (by kernel_rfl))
      obtain rfl := e2 (hdep 2 (by kernel_rfl))
      have HB := Lib.hid hB0; clear hB0
      have HK0 := Lib.hid hK0; clear hK0
      have HK1 := Lib.hid hK1; clear hK1
      have HK2 := Lib.hid hK2; clear hK2
      have HK3 := Lib.hid hK3; clear hK3
      refine wpOp_want rfl rfl ?_
      unfold frP
      go_simp
      refine (Hbb.out _ HK1.out HK2.out).mono ?_
      rintro e w9 ⟨rfl, hb⟩
      go_simp
      exact ⟨u8, (.agg #[.int .i64 (d 0), .int .i64 (d 1), .int .i64 (d 2), .int .i64 (d 3), .int .i64 (d 4), .int .i64 (d 5)]), (.slice (some ⟨gb, 0, none⟩) m m), (.slice (some ⟨gb, 0, none⟩) m m), (v2 xbb ybb), u36, u37, u38, u39, u40, by first | rfl | simp, fun _ => rfl, fun _ => rfl, fun _ => rfl, fun _ => rfl, e4, e5, e6, e7, e8, HB.out.trans (hb.mono HB.out.size), (fun h1 => by obtain ⟨q, e, hq, hA⟩ := hA0 h1; exact ⟨q, e, hq, hA.up hb⟩), HK0.out.up hb, HK1.out.up hb, HK2.out.up hb, HK3.out.up hb⟩
    · obtain ⟨y0, y1, y2, y3, y4, y5⟩ := hK0.six
      have HB := Lib.hid hB0; clear hB0
      have HK0 := Lib.hid hK0; clear hK0
      have HK1 := Lib.hid hK1; clear hK1
      have HK2 := Lib.hid hK2; clear hK2
      have HK3 := Lib.hid hK3; clear hK3
      refine wpOp_want rfl rfl ?_
      unfold frP
      go_simp
      exact ⟨u8, u32, u33, u34, u35, (.agg #[.int .i64 (d 0), .int .i64 (d 1), .int .i64 (d 2), .int .i64 (d 3), .int .i64 (d 4), .int .i64 (d 5)]), u37, u38, u39, u40, by first | rfl | simp, e0, e1, e2, e3, fun _ => rfl, e5, e6, e7, e8, HB.out, hA0, HK0.out, HK1.out, HK2.out, HK3.out⟩
    · refine wpOp_want rfl rfl (Oper.wp_of_quiet (C := fun w' => w' = wz) (K := fun a' => a' = frP d ga n gb m w.heap.size (u8) (u32) (u33) (u34) (u35) (u36) ((.slice (some ⟨gb, 0, none⟩) m m)) (u38) (u39) (u40)) rfl ?_ ?_)
      · intro a' w' hC' hK
        subst hK
        subst hC'
        exact ⟨u8, u32, u33, u34, u35, u36, (.slice (some ⟨gb, 0, none⟩) m m), u38, u39, u40, by first | rfl | simp, e0, e1, e2, e3, e4, fun _ => rfl, e6, e7, e8, hB0, hA0, hK0, hK1, hK2, hK3⟩
      · exact BigFrame.quiet_move _ rfl rfl
    · refine wpOp_want rfl rfl (Oper.wp_of_quiet (C := fun w' => w' = wz) (K := fun a' => a' = frP d ga n gb m w.heap.size (u8) (u32) (u33) (u34) (u35) (u36) (u37) ((.slice (some ⟨ga, 0, none⟩) n n)) (u39) (u40)) rfl ?_ ?_)
      · intro a' w' hC' hK
        subst hK
        subst hC'
        exact ⟨u8, u32, u33, u34, u35, u36, u37, (.slice (some ⟨ga, 0, none⟩) n n), u39, u40, by first | rfl | simp, e0, e1, e2, e3, e4, e5, fun _ => rfl, e7, e8, hB0, hA0, hK0, hK1, hK2, hK3⟩
      · exact BigFrame.quiet_move _ rfl rfl
    · obtain rfl := e4 (hdep 4 (by kernel_rfl))
      obtain rfl := e5 (hdep 5 (by kernel_rfl))
      obtain rfl := e6 (hdep 6 (by kernel_rfl))
      have HB := Lib.hid hB0; clear hB0
      have HK0 := Lib.hid hK0; clear hK0
      have HK1 := Lib.hid hK1; clear hK1
      have HK2 := Lib.hid hK2; clear hK2
      have HK3 := Lib.hid hK3; clear hK3
      refine wpOp_want rfl rfl ?_
      unfold frP
      go_simp
      refine (Hba.out _ HK1.out HK2.out).mono ?_
      rintro e w9 ⟨rfl, hb⟩
      go_simp
      exact ⟨u8, u32, u33, u34, u35, (.agg #[.int .i64 (d 0), .int .i64 (d 1), .int .i64 (d 2), .int .i64 (d 3), .int .i64 (d 4), .int .i64 (d 5)]), (.slice (some ⟨gb, 0, none⟩) m m), (.slice (some ⟨ga, 0, none⟩) n n), (v2 xba yba), u40, by first | rfl | simp, e0, e1, e2, e3, fun _ => rfl, fun _ => rfl, fun _ => rfl, fun _ => rfl, e8, HB.out.trans (hb.mono HB.out.size), (fun h1 => by obtain ⟨q, e, hq, hA⟩ := hA0 h1; exact ⟨q, e, hq, hA.up hb⟩), HK0.out.up hb, HK1.out.up hb, HK2.out.up hb, HK3.out.up hb⟩
    · obtain rfl := e3 (hdep 3 (by kernel_rfl))
      obtain rfl := e7 (hdep 7 (by kernel_rfl))
      have HB := Lib.hid hB0; clear hB0
      have HK0 := Lib.hid hK0; clear hK0
      have HK1 := Lib.hid hK1; clear hK1
      have HK2 := Lib.hid hK2; clear hK2
      have HK3 := Lib.hid hK3; clear hK3
      refine wpOp_want rfl rfl ?_
      unfold frP
      go_simp
      refine (Hm1.out _).mono ?_
      rintro e w9 ⟨rfl, hb⟩
      go_simp
      exact ⟨u8, u32, u33, u34, (v2 xbb ybb), u36, u37, u38, (v2 xba yba), (v2 xa ya), by first | rfl | simp, e0, e1, e2, fun _ => rfl, e4, e5, e6, fun _ => rfl, fun _ => rfl, HB.out.trans (hb.mono HB.out.size), (fun h1 => by obtain ⟨q, e, hq, hA⟩ := hA0 h1; exact ⟨q, e, hq, hA.up hb⟩), HK0.out.up hb, HK1.out.up hb, HK2.out.up hb, HK3.out.up hb⟩
    · have h9f : L 10 = false := by cases h : L 10; rfl; exact absurd (hcl 10 9 h (by kernel_rfl)) (by rw [hL]; decide)
      have HB := Lib.hid hB0; clear hB0
      have HK0 := Lib.hid hK0; clear hK0
      have HK1 := Lib.hid hK1; clear hK1
      have HK2 := Lib.hid hK2; clear hK2
      have HK3 := Lib.hid hK3; clear hK3
      refine wpOp_want rfl rfl ?_
      unfold frP
      go_simp
      exact ⟨.pointer (some ⟨wz.heap.size, 0, none⟩), u32, u33, u34, u35, u36, u37, u38, u39, u40, by first | rfl | simp, e0, e1, e2, e3, e4, e5, e6, e7, e8, HB.out.alloc HB.out.size _, (fun _ => ⟨_, rfl, HB.out.size, At.congr ((At.new2 wz 29)) (fun k _ => by show (0 : Int) = if L 10 = true then _ else 0; rw [h9f]; rfl)⟩), HK0.out.past _, HK1.out.past _, HK2.out.past _, HK3.out.past _⟩
    · obtain rfl := e8 (hdep 8 (by kernel_rfl))
      obtain ⟨q, rfl, hq2, hq3⟩ := hA0 (hdep 9 (by kernel_rfl))
      have hq3' : At wz q 2 (fun _ => 0) := hq3.congr (fun k _ => by show (if L 10 = true then _ else 0) = (0 : Int); rw [hL]; rfl)
      have o0 := hq3'.cell 0 (by omega)
      have z0 := hq3'.free 0
      have o1 := hq3'.cell 1 (by omega)
      have z1 := hq3'.free 1
      have HB := Lib.hid hB0; clear hB0
      have HK0 := Lib.hid hK0; clear hK0
      have HK1 := Lib.hid hK1; clear hK1
      have HK2 := Lib.hid hK2; clear hK2
      have HK3 := Lib.hid hK3; clear hK3
      refine wpOp_want rfl rfl ?_
      unfold frP
      go_simp
      exact ⟨.pointer (some ⟨q, 0, none⟩), u32, u33, u34, u35, u36, u37, u38, u39, (v2 xa ya), by first | rfl | simp, e0, e1, e2, e3, e4, e5, e6, e7, fun _ => rfl, HB.out.trans (setCells_below (p := q) (B := W.heap.size) hq2 (vals 2 (fr xa ya)) 0), (fun _ => ⟨q, rfl, hq2, At.congr (hq3'.stored (fr xa ya)) (fun k _ => rfl)⟩), HK0.out.keep (p := q) (by have h1 := (hD).lt; omega) (vals 2 (fr xa ya)) 0, HK1.out.keep (p := q) (by have h1 := (hA).lt; omega) (vals 2 (fr xa ya)) 0, HK2.out.keep (p := q) (by have h1 := (hC).lt; omega) (vals 2 (fr xa ya)) 0, HK3.out.keep (p := q) (by have h1 := (hR).lt; omega) (vals 2 (fr xa ya)) 0⟩
  intro L az wz hL hcl hI
  obtain ⟨u8, u32, u33, u34, u35, u36, u37, u38, u39, u40, rfl, e0, e1, e2, e3, e4, e5, e6, e7, e8, hB0, hA0, hK0, hK1, hK2, hK3⟩ := hI
  obtain rfl := e0 (hL 0 (by decide))
  obtain rfl := e1 (hL 1 (by decide))
  obtain rfl := e2 (hL 2 (by decide))
  obtain rfl := e3 (hL 3 (by decide))
  obtain rfl := e4 (hL 4 (by decide))
  obtain rfl := e5 (hL 5 (by decide))
  obtain rfl := e6 (hL 6 (by decide))
  obtain rfl := e7 (hL 7 (by decide))
  obtain rfl := e8 (hL 8 (by decide))
  obtain ⟨q1, rfl, hlq1, hq3⟩ := hA0 (hL 9 (by decide))
  have hq1 : At wz q1 2 (fr xa ya) := hq3.congr fun k hk => by rw [if_pos (hL 10 (by decide))]
  clear hq3
  clear hcl hL
  unfold frP
  have hB := hB.trans (hB0.mono hB.size)
  have hlX := hlq1
  have hX1 := hq1
  clear hB0 hD hA hC hR
  have hD := hK0
  have hA := hK1
  have hC := hK2
  have hR := hK3
  clear hK0 hK1 hK2 hK3 hq1 hlq1
  obtain ⟨W2, hW2⟩ : ∃ W2, W2 = wz := ⟨_, rfl⟩
  rw [← hW2] at hD hA hC hR hB hX1 ⊢
  have hX1l := hX1.lt
  clear hW2
  go_wp2_with fail
  refine wp_region_inc (I := fun L az w' => ∃ u9 u41 u42 u43 u44 u45 u46 u47 u48 u49 : Value, az = frR d ga n gb m w.heap.size q1 xbb ybb xba yba xa ya u9 u41 u42 u43 u44 u45 u46 u47 u48 u49 ∧ (L 0 = true → u41 = (.agg #[.int .i64 (d 0), .int .i64 (d 1), .int .i64 (d 2), .int .i64 (d 3), .int .i64 (d 4), .int .i64 (d 5)])) ∧ (L 1 = true → u42 = (.slice (some ⟨ga, 0, none⟩) n n)) ∧ (L 2 = true → u43 = (.slice (some ⟨ga, 0, none⟩) n n)) ∧ (L 3 = true → u44 = (v2 xaa yaa)) ∧ (L 4 = true → u45 = (.agg #[.int .i64 (d 0), .int .i64 (d 1), .int .i64 (d 2), .int .i64 (d 3), .int .i64 (d 4), .int .i64 (d 5)])) ∧ (L 5 = true → u46 = (.slice (some ⟨ga, 0, none⟩) n n)) ∧ (L 6 = true → u47 = (.slice (some ⟨gb, 0, none⟩) m m)) ∧ (L 7 = true → u48 = (v2 xab yab)) ∧ (L 8 = true → u49 = (v2 xb yb)) ∧ Below W2.heap.size W2 w' ∧ (L 9 = true → ∃ q, u9 = .pointer (some ⟨q, 0, none⟩) ∧ W2.heap.size ≤ q ∧ At w' q 2 (fun k => if L 10 = true then (fr xb yb) k else 0)) ∧ At w' w.heap.size 6 d ∧ At w' ga n fa ∧ At w' gb m fb ∧ At w' (w.heap.size + 1) 2 (fun _ => 0) ∧ At w' q1 2 (fr xa ya)) (by kernel_rfl) (by kernel_rfl) ?_ ?_ ?_
  · exact ⟨_, _, _, _, _, _, _, _, _, _, rfl, (fun h => by cases h), (fun h => by cases h), (fun h => by cases h), (fun h => by cases h), (fun h => by cases h), (fun h => by cases h), (fun h => by cases h), (fun h => by cases h), (fun h => by cases h), ((Below.refl _ W2).drew), (fun h => by cases h), (hD).drew, (hA).drew, (hC).drew, (hR).drew, (hX1).drew⟩
  · intro L az wz i hi hL hdep hcl hI
    obtain ⟨u9, u41, u42, u43, u44, u45, u46, u47, u48, u49, rfl, e0, e1, e2, e3, e4, e5, e6, e7, e8, hB0, hA0, hK0, hK1, hK2, hK3, hK4⟩ := hI
    have hi' : i < 11 := hi
    clear hi
    obtain rfl | rfl | rfl | rfl | rfl | rfl | rfl | rfl | rfl | rfl | rfl : i = 0 ∨ i = 1 ∨ i = 2 ∨ i = 3 ∨ i = 4 ∨ i = 5 ∨ i = 6 ∨ i = 7 ∨ i = 8 ∨ i = 9 ∨ i = 10 := by omega
    · obtain ⟨y0, y1, y2, y3, y4, y5⟩ := hK0.six
      have HB := Lib.hid hB0; clear hB0
      have HK0 := Lib.hid hK0; clear hK0
      have HK1 := Lib.hid hK1; clear hK1
      have HK2 := Lib.hid hK2; clear hK2
      have HK3 := Lib.hid hK3; clear hK3
      have HK4 := Lib.hid hK4; clear hK4
      refine wpOp_want rfl rfl ?_
      unfold frR
      go_simp
      exact ⟨u9, (.agg #[.int .i64 (d 0), .int .i64 (d 1), .int .i64 (d 2), .int .i64 (d 3), .int .i64 (d 4), .int .i64 (d 5)]), u42, u43, u44, u45, u46, u47, u48, u49, by first | rfl | simp, fun _ => rfl, e1, e2, e3, e4, e5, e6, e7, e8, HB.out, hA0, HK0.out, HK1.out, HK2.out, HK3.out, HK4.out⟩
    · refine wpOp_want rfl rfl (Oper.wp_of_quiet (C := fun w' => w' = wz) (K := fun a' => a' = frR d ga n gb m w.heap.size q1 xbb ybb xba yba xa ya (u9) (u41) ((.slice (some ⟨ga, 0, none⟩) n n)) (u43) (u44) (u45) (u46) (u47) (u48) (u49)) rfl ?_ ?_)
      · intro a' w' hC' hK
        subst hK
        subst hC'
        exact ⟨u9, u41, (.slice (some ⟨ga, 0, none⟩) n n), u43, u44, u45, u46, u47, u48, u49, by first | rfl | simp, e0, fun _ => rfl, e2, e3, e4, e5, e6, e7, e8, hB0, hA0, hK0, hK1, hK2, hK3, hK4⟩
      · exact BigFrame.quiet_move _ rfl rfl
    · refine wpOp_want rfl rfl (Oper.wp_of_quiet (C := fun w' => w' = wz) (K := fun a' => a' = frR d ga n gb m w.heap.size q1 xbb ybb xba yba xa ya (u9) (u41) (u42) ((.slice (some ⟨ga, 0, none⟩) n n)) (u44) (u45) (u46) (u47) (u48) (u49)) rfl ?_ ?_)
      · intro a' w' hC' hK
        subst hK
        subst hC'
        exact ⟨u9, u41, u42, (.slice (some ⟨ga, 0, none⟩) n n), u44, u45, u46, u47, u48, u49, by first | rfl | simp, e0, e1, fun _ => rfl, e3, e4, e5, e6, e7, e8, hB0, hA0, hK0, hK1, hK2, hK3, hK4⟩
      · exact BigFrame.quiet_move _ rfl rfl
    · obtain rfl := e0 (hdep 0 (by kernel_rfl))
      obtain rfl := e1 (hdep 1 (by kernel_rfl))
      obtain rfl := e2 (hdep 2 (by kernel_rfl))
      have HB := Lib.hid hB0; clear hB0
      have HK0 := Lib.hid hK0; clear hK0
      have HK1 := Lib.hid hK1; clear hK1
      have HK2 := Lib.hid hK2; clear hK2
      have HK3 := Lib.hid hK3; clear hK3
      have HK4 := Lib.hid hK4; clear hK4
      refine wpOp_want rfl rfl ?_
      unfold frR
      go_simp
      refine (Haa.out _ HK1.out HK2.out).mono ?_
      rintro e w9 ⟨rfl, hb⟩
      go_simp
      exact ⟨u9, (.agg #[.int .i64 (d 0), .int .i64 (d 1), .int .i64 (d 2), .int .i64 (d 3), .int .i64 (d 4), .int .i64 (d 5)]), (.slice (some ⟨ga, 0, none⟩) n n), (.slice (some ⟨ga, 0, none⟩) n n), (v2 xaa yaa), u45, u46, u47, u48, u49, by first | rfl | simp, fun _ => rfl, fun _ => rfl, fun _ => rfl, fun _ => rfl, e4, e5, e6, e7, e8, HB.out.trans (hb.mono HB.out.size), (fun h1 => by obtain ⟨q, e, hq, hA⟩ := hA0 h1; exact ⟨q, e, hq, hA.up hb⟩), HK0.out.up hb, HK1.out.up hb, HK2.out.up hb, HK3.out.up hb, HK4.out.up hb⟩
    · obtain ⟨y0, y1, y2, y3, y4, y5⟩ := hK0.six
      have HB := Lib.hid hB0; clear hB0
      have HK0 := Lib.hid hK0; clear hK0
      have HK1 := Lib.hid hK1; clear hK1
      have HK2 := Lib.hid hK2; clear hK2
      have HK3 := Lib.hid hK3; clear hK3
      have HK4 := Lib.hid hK4; clear hK4
      refine wpOp_want rfl rfl ?_
      unfold frR
      go_simp
      exact ⟨u9, u41, u42, u43, u44, (.agg #[.int .i64 (d 0), .int .i64 (d 1), .int .i64 (d 2), .int .i64 (d 3), .int .i64 (d 4), .int .i64 (d 5)]), u46, u47, u48, u49, by first | rfl | simp, e0, e1, e2, e3, fun _ => rfl, e5, e6, e7, e8, HB.out, hA0, HK0.out, HK1.out, HK2.out, HK3.out, HK4.out⟩
    · refine wpOp_want rfl rfl (Oper.wp_of_quiet (C := fun w' => w' = wz) (K := fun a' => a' = frR d ga n gb m w.heap.size q1 xbb ybb xba yba xa ya (u9) (u41) (u42) (u43) (u44) (u45) ((.slice (some ⟨ga, 0, none⟩) n n)) (u47) (u48) (u49)) rfl ?_ ?_)
      · intro a' w' hC' hK
        subst hK
        subst hC'
        exact ⟨u9, u41, u42, u43, u44, u45, (.slice (some ⟨ga, 0, none⟩) n n), u47, u48, u49, by first | rfl | simp, e0, e1, e2, e3, e4, fun _ => rfl, e6, e7, e8, hB0, hA0, hK0, hK1, hK2, hK3, hK4⟩
      · exact BigFrame.quiet_move _ rfl rfl
    · refine wpOp_want rfl rfl (Oper.wp_of_quiet (C := fun w' => w' = wz) (K := fun a' => a' = frR d ga n gb m w.heap.size q1 xbb ybb xba yba xa ya (u9) (u41) (u42) (u43) (u44) (u45) (u46) ((.slice (some ⟨gb, 0, none⟩) m m)) (u48) (u49)) rfl ?_ ?_)
      · intro a' w' hC' hK
        subst hK
        subst hC'
        exact ⟨u9, u41, u42, u43, u44, u45, u46, (.slice (some ⟨gb, 0, none⟩) m m), u48, u49, by first | rfl | simp, e0, e1, e2, e3, e4, e5, fun _ => rfl, e7, e8, hB0, hA0, hK0, hK1, hK2, hK3, hK4⟩
      · exact BigFrame.quiet_move _ rfl rfl
    · obtain rfl := e4 (hdep 4 (by kernel_rfl))
      obtain rfl := e5 (hdep 5 (by kernel_rfl))
      obtain rfl := e6 (hdep 6 (by kernel_rfl))
      have HB := Lib.hid hB0; clear hB0
      have HK0 := Lib.hid hK0; clear hK0
      have HK1 := Lib.hid hK1; clear hK1
      have HK2 := Lib.hid hK2; clear hK2
      have HK3 := Lib.hid hK3; clear hK3
      have HK4 := Lib.hid hK4; clear hK4
      refine wpOp_want rfl rfl ?_
      unfold frR
      go_simp
      refine (Hab.out _ HK1.out HK2.out).mono ?_
      rintro e w9 ⟨rfl, hb⟩
      go_simp
      exact ⟨u9, u41, u42, u43, u44, (.agg #[.int .i64 (d 0), .int .i64 (d 1), .int .i64 (d 2), .int .i64 (d 3), .int .i64 (d 4), .int .i64 (d 5)]), (.slice (some ⟨ga, 0, none⟩) n n), (.slice (some ⟨gb, 0, none⟩) m m), (v2 xab yab), u49, by first | rfl | simp, e0, e1, e2, e3, fun _ => rfl, fun _ => rfl, fun _ => rfl, fun _ => rfl, e8, HB.out.trans (hb.mono HB.out.size), (fun h1 => by obtain ⟨q, e, hq, hA⟩ := hA0 h1; exact ⟨q, e, hq, hA.up hb⟩), HK0.out.up hb, HK1.out.up hb, HK2.out.up hb, HK3.out.up hb, HK4.out.up hb⟩
    · obtain rfl := e3 (hdep 3 (by kernel_rfl))
      obtain rfl := e7 (hdep 7 (by kernel_rfl))
      have HB := Lib.hid hB0; clear hB0
      have HK0 := Lib.hid hK0; clear hK0
      have HK1 := Lib.hid hK1; clear hK1
      have HK2 := Lib.hid hK2; clear hK2
      have HK3 := Lib.hid hK3; clear hK3
      have HK4 := Lib.hid hK4; clear hK4
      refine wpOp_want rfl rfl ?_
      unfold frR
      go_simp
      refine (Hm2.out _).mono ?_
      rintro e w9 ⟨rfl, hb⟩
      go_simp
      exact ⟨u9, u41, u42, u43, (v2 xaa yaa), u45, u46, u47, (v2 xab yab), (v2 xb yb), by first | rfl | simp, e0, e1, e2, fun _ => rfl, e4, e5, e6, fun _ => rfl, fun _ => rfl, HB.out.trans (hb.mono HB.out.size), (fun h1 => by obtain ⟨q, e, hq, hA⟩ := hA0 h1; exact ⟨q, e, hq, hA.up hb⟩), HK0.out.up hb, HK1.out.up hb, HK2.out.up hb, HK3.out.up hb, HK4.out.up hb⟩
    · have h9f : L 10 = false := by cases h : L 10; rfl; exact absurd (hcl 10 9 h (by kernel_rfl)) (by rw [hL]; decide)
      have HB := Lib.hid hB0; clear hB0
      have HK0 := Lib.hid hK0; clear hK0
      have HK1 := Lib.hid hK1; clear hK1
      have HK2 := Lib.hid hK2; clear hK2
      have HK3 := Lib.hid hK3; clear hK3
      have HK4 := Lib.hid hK4; clear hK4
      refine wpOp_want rfl rfl ?_
      unfold frR
      go_simp
      exact ⟨.pointer (some ⟨wz.heap.size, 0, none⟩), u41, u42, u43, u44, u45, u46, u47, u48, u49, by first | rfl | simp, e0, e1, e2, e3, e4, e5, e6, e7, e8, HB.out.alloc HB.out.size _, (fun _ => ⟨_, rfl, HB.out.size, At.congr ((At.new2 wz 29)) (fun k _ => by show (0 : Int) = if L 10 = true then _ else 0; rw [h9f]; rfl)⟩), HK0.out.past _, HK1.out.past _, HK2.out.past _, HK3.out.past _, HK4.out.past _⟩
    · obtain rfl := e8 (hdep 8 (by kernel_rfl))
      obtain ⟨q, rfl, hq2, hq3⟩ := hA0 (hdep 9 (by kernel_rfl))
      have hq3' : At wz q 2 (fun _ => 0) := hq3.congr (fun k _ => by show (if L 10 = true then _ else 0) = (0 : Int); rw [hL]; rfl)
      have o0 := hq3'.cell 0 (by omega)
      have z0 := hq3'.free 0
      have o1 := hq3'.cell 1 (by omega)
      have z1 := hq3'.free 1
      have HB := Lib.hid hB0; clear hB0
      have HK0 := Lib.hid hK0; clear hK0
      have HK1 := Lib.hid hK1; clear hK1
      have HK2 := Lib.hid hK2; clear hK2
      have HK3 := Lib.hid hK3; clear hK3
      have HK4 := Lib.hid hK4; clear hK4
      refine wpOp_want rfl rfl ?_
      unfold frR
      go_simp
      exact ⟨.pointer (some ⟨q, 0, none⟩), u41, u42, u43, u44, u45, u46, u47, u48, (v2 xb yb), by first | rfl | simp, e0, e1, e2, e3, e4, e5, e6, e7, fun _ => rfl, HB.out.trans (setCells_below (p := q) (B := W2.heap.size) hq2 (vals 2 (fr xb yb)) 0), (fun _ => ⟨q, rfl, hq2, At.congr (hq3'.stored (fr xb yb)) (fun k _ => rfl)⟩), HK0.out.keep (p := q) (by have h1 := (hD).lt; omega) (vals 2 (fr xb yb)) 0, HK1.out.keep (p := q) (by have h1 := (hA).lt; omega) (vals 2 (fr xb yb)) 0, HK2.out.keep (p := q) (by have h1 := (hC).lt; omega) (vals 2 (fr xb yb)) 0, HK3.out.keep (p := q) (by have h1 := (hR).lt; omega) (vals 2 (fr xb yb)) 0, HK4.out.keep (p := q) (by have h1 := (hX1).lt; omega) (vals 2 (fr xb yb)) 0⟩
  intro L az wz hL hcl hI
  obtain ⟨u9, u41, u42, u43, u44, u45, u46, u47, u48, u49, rfl, e0, e1, e2, e3, e4, e5, e6, e7, e8, hB0, hA0, hK0, hK1, hK2, hK3, hK4⟩ := hI
  obtain rfl := e0 (hL 0 (by decide))
  obtain rfl := e1 (hL 1 (by decide))
  obtain rfl := e2 (hL 2 (by decide))
  obtain rfl := e3 (hL 3 (by decide))
  obtain rfl := e4 (hL 4 (by decide))
  obtain rfl := e5 (hL 5 (by decide))
  obtain rfl := e6 (hL 6 (by decide))
  obtain rfl := e7 (hL 7 (by decide))
  obtain rfl := e8 (hL 8 (by decide))
  obtain ⟨q2, rfl, hlq2, hq3⟩ := hA0 (hL 9 (by decide))
  have hq2 : At wz q2 2 (fr xb yb) := hq3.congr fun k hk => by rw [if_pos (hL 10 (by decide))]
  clear hq3
  clear hcl hL
  unfold frR
  have hB := hB.trans (hB0.mono hB.size)
  clear hB0 hD hA hC hR hX1 hK0 hK1 hK2
  have hR := hK3
  have hX1 := hK4
  have hX2 := hq2
  clear hK3 hK4 hq2
  have c0 := hX1.cell 0 (by omega)
  have c1 := hX1.cell 1 (by omega)
  have c2 := hX2.cell 0 (by omega)
  have c3 := hX2.cell 1 (by omega)
  rw [show fr (xa : Int) (ya : Int) 0 = xa from rfl] at c0
  rw [show fr (xa : Int) (ya : Int) 1 = ya from rfl] at c1
  rw [show fr (xb : Int) (yb : Int) 0 = xb from rfl] at c2
  rw [show fr (xb : Int) (yb : Int) 1 = yb from rfl] at c3
  go_wp2_with fail
  refine (Hpl.out _).mono ?_
  rintro e w7 ⟨rfl, hb7⟩
  have hR7 := (hR.up hb7).past (.cells #[.int .i64 (sx : Int), .int .i64 (sy : Int)] 29)
  have hX7 := (hX1.up hb7).past (.cells #[.int .i64 (sx : Int), .int .i64 (sy : Int)] 29)
  have hS7 := At.newGb w7 (sx : Int) (sy : Int) 29 rfl
  have hB7 := na (nx hB hb7) (.cells #[.int .i64 (sx : Int), .int .i64 (sy : Int)] 29)
  clear c0 c1 c2 c3 hR hX1 hX2 hB hb7
  have c0 := hX7.cell 0 (by omega)
  have c1 := hX7.cell 1 (by omega)
  have c2 := hS7.cell 0 (by omega)
  have c3 := hS7.cell 1 (by omega)
  rw [show fr (xa : Int) (ya : Int) 0 = xa from rfl] at c0
  rw [show fr (xa : Int) (ya : Int) 1 = ya from rfl] at c1
  rw [show fr (sx : Int) (sy : Int) 0 = sx from rfl] at c2
  rw [show fr (sx : Int) (sy : Int) 1 = sy from rfl] at c3
  go_wp2_with fail
  refine (Hcut.out _).mono ?_
  rintro e w8 ⟨rfl, hb8⟩
  have hRX := hR7.up hb8
  have hB8 := nx hB7 hb8
  clear c0 c1 c2 c3
  have c0 := hRX.cell 0 (by omega)
  have c1 := hRX.cell 1 (by omega)
  have z0 := hRX.free 0
  have z1 := hRX.free 1
  go_wp2_with fail
  refine ret_cell_tmp (b := w.heap.size + 1) (n := 2) (f := fr x0 y0) Try.results36 rfl rfl Try.underlying29 (by kernel_rfl) (fin2' hRX _ _) rfl ⟨rfl, ?_⟩
  exact (hB8.setCell (p := ⟨w.heap.size + 1, 0, none⟩) (Nat.le_succ _) _).setCell (p := ⟨w.heap.size + 1, 1, none⟩) (Nat.le_succ _) _


end FirS
end Go.Proofs.Ytdodokeebmdceaa
