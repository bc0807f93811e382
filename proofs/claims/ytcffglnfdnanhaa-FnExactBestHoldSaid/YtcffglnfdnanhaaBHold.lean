/-
  BestHold, both sides.
-/
import Derived.Test.YtcffglnfdnanhaaRows
import Derived.Test.YtcffglnfdnanhaaArr
import Derived.Test.YtcffglnfdnanhaaAnyR
import Derived.Test.YtcffglnfdnanhaaDieW
import Derived.Test.YtcffglnfdnanhaaSortW
import Derived.Test.YtcffglnfdnanhaaFracW
import Derived.Test.YtcffglnfdnanhaaFracL
import Derived.Test.YtcffglnfdnanhaaCutW
import Derived.Test.YtcffglnfdnanhaaAll6
import Derived.Test.YtcffglnfdnanhaaAllL
import Derived.Test.YtcffglnfdnanhaaOwnL
import Derived.Test.YtcffglnfdnanhaaFracM
import Derived.Test.YtcffglnfdnanhaaStopM
import Derived.Test.YtcffglnfdnanhaaRunM
import Derived.Test.YtcffglnfdnanhaaRunI
import Derived.Test.YtcffglnfdnanhaaRunS
import Derived.Test.YtcffglnfdnanhaaRunW
import Derived.Test.YtcffglnfdnanhaaHoldM
import Derived.Test.YtcffglnfdnanhaaBig40
import Derived.Test.YtcffglnfdnanhaaBig41
import Derived.Test.YtcffglnfdnanhaaHoldI
import Derived.Test.YtcffglnfdnanhaaHoldS
import Derived.Test.YtcffglnfdnanhaaHoldW
import Derived.Test.YtcffglnfdnanhaaRunW
import Derived.Test.YtcffglnfdnanhaaRunS
import Derived.Test.YtcffglnfdnanhaaTopW
import Derived.Test.YtcffglnfdnanhaaBHoldM
import Derived.Test.YtcffglnfdnanhaaOpenD
import Derived.WalkKit
import Derived.OwnWalk
import Derived.Lib.AppendZeros
import Derived.WalkLawsBesides
import Derived.WalkSpells
import Derived.ProofKit
import Derived.OpenShut
import Derived.Deep.RegionWith
import Derived.Deep.QuietTactic
import Derived.BigQuiet
namespace Go.Proofs.Ytcffglnfdnanhaa
open Go.ChangeShapes Go.WideShapes Go.ChangeAt Go.RowKit
open Go.ChangeMaps (open_string shut_string)

namespace BHold
open Dice Arr DieW SortW FracW CutW All6 AllL OwnL FracM StopM RunM RunI RunS RunW HoldM HoldI HoldS HoldW TopW BHoldM

theorem results_tct {fn : Func} {u p q : Tmp} {ty : TypeId} (h : fn.results = #[.tmp u, .cell p ty, .tmp q]) (tmps : Array Value) (P : Program) (w : World) :
    (results fn tmps).run P w = ((asAddr (tmps.getD p undef)).run P w).andThen fun a w₁ => ((loadVar ty a).run P w₁).andThen fun v w₂ => .ok (.tuple #[tmps.getD u undef, v, tmps.getD q undef]) w₂ := by
  simp only [results, h]
  simp [Sem.run_bind, Result.andThen]
theorem ret_tct {P : Program} {fn : Func} {R : Ending → World → Prop} {a : Act} {w : World} {u p q : Tmp} {ty e : TypeId} {b n : Nat} {f : Nat → Int} {x y : Value} (h : fn.results = #[.tmp u, .cell p ty, .tmp q]) (hp : a.tmps.getD p undef = .pointer (some ⟨b, 0, none⟩)) (hx : a.tmps.getD u undef = x) (hy : a.tmps.getD q undef = y)
    (hu : P.underlying ty = some (.array n e)) (hi : (P.info? ty).map (·.size) = some n) (hA : At w b n f) (hd : a.defers = []) (hR : R (.returned (.tuple #[x, .agg (vals n f).toArray, y])) w) : bodyPost P fn R .ret a w := by
  refine bodyPost_ret (v := .tuple #[x, .agg (vals n f).toArray, y]) ?_ hd hR
  rw [results_tct h, hp, hx, hy]
  simp [Result.andThen, asAddr, hA.loadVar hu hi]
def bhp (d : Nat → Int) (bad : Int) : Int := if okT d bad 1 then ((top (FG (face d) bad.toNat) 10).1 + 1 : Nat) else 0
def bhx (d : Nat → Int) (bad : Int) : Int := if okT d bad 1 then (cn (bm (face d) bad.toNat 10) : Nat) else 0
def bhy (d : Nat → Int) (bad : Int) : Int := if okT d bad 1 then (cd (bm (face d) bad.toNat 10) : Nat) else 0
theorem bh_no {d : Nat → Int} {bad : Int} (x : okT d bad 1 = false) : bhp d bad = 0 ∧ bhx d bad = 0 ∧ bhy d bad = 0 := by simp [bhp, bhx, bhy, x]
theorem bh_yes {d : Nat → Int} {bad : Nat} (x : okT d bad 1 = true) : bhp d bad = ((top (FG (face d) bad) 10).1 + 1 : Nat) ∧ bhx d bad = (cn (bm (face d) bad 10) : Nat) ∧ bhy d bad = (cd (bm (face d) bad 10) : Nat) := by
  simp [bhp, bhx, bhy, x]
theorem okT_same (d : Nat → Int) (bad : Int) : okT d bad 10 = okT d bad 1 := by
  simp only [okT, show decide ((1 : Int) ≤ 10 ∧ (10 : Int) ≤ 10) = true from by decide, show decide ((1 : Int) ≤ 1 ∧ (1 : Int) ≤ 10) = true from by decide]

set_option maxRecDepth 100000 in
set_option maxHeartbeats 16000000 in
theorem implBHold_any (d : Nat → Int) (bad : Int) (w : World) :
    Calls Try.prog 45 #[dv d, .int .i64 bad] w fun e w' => e = .returned (.tuple #[.int .i64 (bhp d bad), v2 (bhx d bad) (bhy d bad), .bool (okT d bad 1)]) ∧ Below w.heap.size w w' := by
  have hc := fun w => canTurn_any d bad 10 w
  rw [okT_same] at hc
  unfold dv at hc
  have Hc := Lib.hid hc; clear hc
  cases hok : okT d bad 1
  · rw [hok] at Hc
    rw [(bh_no hok).1, (bh_no hok).2.1, (bh_no hok).2.2]
    clear hok
    unfold dv
    have hB := na (na (n0 w) (sixO d 22)) (.cells #[.int .i64 0, .int .i64 0] 30)
    have hD := (At.new6 w d 22 rfl).past (.cells #[.int .i64 0, .int .i64 0] 30)
    have hRX := At.new2 (w.alloc (sixO d 22)) 30
    rw [size_alloc] at hRX
    obtain ⟨e0, e1, e2, e3, e4, e5⟩ := hD.six
    go_enter Try.func45, Try.ntmps45
    go_wp2_with fail
    refine (Hc.out _).mono ?_
    rintro e w1 ⟨rfl, hb1⟩
    have hD := hD.up hb1
    have hRX := hRX.up hb1
    have hB := nx hB hb1
    clear hb1
    clear e0 e1 e2 e3 e4 e5
    have c0 := hRX.cell 0 (by omega)
    have c1 := hRX.cell 1 (by omega)
    have z0 := hRX.free 0
    have z1 := hRX.free 1
    go_wp2_with fail
    refine ret_tct (b := w.heap.size + 1) (n := 2) (f := fr 0 0) Try.results45 rfl rfl rfl Try.underlying30 (by kernel_rfl) (fin2' hRX _ _) rfl ⟨rfl, ?_⟩
    exact (hB.setCell (p := ⟨w.heap.size + 1, 0, none⟩) (Nat.le_succ _) _).setCell (p := ⟨w.heap.size + 1, 1, none⟩) (Nat.le_succ _) _
  · rw [hok] at Hc
    obtain ⟨hr, ⟨hb1, hb2⟩, _, _⟩ := of_okT hok
    obtain ⟨bad, rfl⟩ : ∃ m : Nat, bad = m := ⟨bad.toNat, by omega⟩
    rw [(bh_yes hok).1, (bh_yes hok).2.1, (bh_yes hok).2.2]
    have hd := faces_of hr
    generalize face d = f at *
    clear hok hr
    have hm : ∀ k, k < 10 → ∀ w, Calls Try.prog 78 #[dv d, .int .i64 bad, .int .i64 (k + 1 : Nat)] w fun e w' => e = .returned (.int .i64 (gn f bad k : Nat)) ∧ Below w.heap.size w w' := fun k hk w => implGain_any d f bad (k + 1) w hd (by omega)
    unfold dv at hm
    have Hm := Lib.hid hm; clear hm hd
    have Hgl := Lib.hid (fun k (hk : k < 10) => gn_le f bad hk)
    have hfm : ∀ g c w, At w g 10 (FG f bad) → Calls Try.prog 79 #[.slice (some ⟨g, 0, none⟩) 10 c] w fun e w' => e = .returned (.tuple #[.int .i64 ((top (FG f bad) 10).1 : Nat), .int .i64 (bm f bad 10 : Nat)]) ∧ w' = w := fun g c w hA => by
      have h := firstMost_any (FG f bad) (FG_pos f bad) g 9 c (by omega) w hA
      rw [bm_eq f bad 9] at h
      exact h
    have Hfm := Lib.hid hfm; clear hfm
    have Ho := Lib.hid (fun w => outcomesL 10 w (by omega))
    rw [show all6 10 = 60466176 from by decide] at Ho
    have Hcut : Hid (∀ w, Calls Try.prog 59 #[.int .i64 (bm f bad 10 : Nat), .int .i64 60466176] w fun e w' => e = .returned (v2 (cn (bm f bad 10) : Nat) (cd (bm f bad 10) : Nat)) ∧ Below w.heap.size w w') := fun w => FracL.fractionL (bm f bad 10) 60466176 w (by have : bm f bad 10 ≤ 2358180864 := bm_le f bad (k := 9) (by omega); omega) (by omega) (by omega)
    have htl := top_lt f bad 9
    have Hsn : Hid (∀ k, vals k (FG f bad) ++ [.int .i64 (gn f bad k : Nat)] = vals (k + 1) (FG f bad)) := fun k => vals_snoc k _
    generalize cn (bm f bad 10) = x0 at *
    generalize cd (bm f bad 10) = y0 at *
    generalize bm f bad 10 = R at *
    generalize (top (FG f bad) (9 + 1)).1 = T at *
    obtain ⟨i0, hi, hz0, hz1, hz2⟩ := info_parts OwnL.info_int
    have Hi := Lib.hid (And.intro hi (And.intro hz0 (And.intro hz1 hz2)))
    clear hi hz0 hz1 hz2
    unfold dv
    have hB := na (na (n0 w) (sixO d 22)) (.cells #[.int .i64 0, .int .i64 0] 30)
    have hD := (At.new6 w d 22 rfl).past (.cells #[.int .i64 0, .int .i64 0] 30)
    have hRX := At.new2 (w.alloc (sixO d 22)) 30
    rw [size_alloc] at hRX
    obtain ⟨e0, e1, e2, e3, e4, e5⟩ := hD.six
    go_enter Try.func45, Try.ntmps45
    go_wp2_with fail
    refine (Hc.out _).mono ?_
    rintro e w1 ⟨rfl, hb1⟩
    have hD := hD.up hb1
    have hRX := hRX.up hb1
    have hB := nx hB hb1
    clear hb1
    clear e0 e1 e2 e3 e4 e5
    have hsz : w.heap.size + 2 ≤ w1.heap.size := by have := hRX.lt; omega
    go_wp2_with fail
    go_loopw [7, 8] (fun gv kv wr => ∃ k m : Nat, (m ≤ k + 1 ∧ k + 1 ≤ m) ∧ k ≤ 10 ∧ kv = .int .i64 m ∧ wr.ownsRow (w.heap.size + 2) 3 1 gv k (vals k (FG f bad)) ∧ At wr (w.heap.size + 1) 2 (fun _ => 0) ∧ At wr w.heap.size 6 d ∧ Below w.heap.size w wr) (fun _ kv _ => 11 - (intOf kv).toNat)
    case atStart => exact ⟨0, 1, by omega, by omega, rfl, World.ownsRow_nil _ _ _ _, hRX, hD, hB⟩
    case round =>
      clear hRX hD hB
      obtain ⟨k, m, ⟨hm1, hm2⟩, hk, rfl, hO, hRX, hD, hB⟩ := hrel
      by_cases hlt : k < 10
      · have hit : decide ((m : Int) ≤ 10) = true := decide_eq_true (by omega)
        have hitN : decide (m ≤ 10) = true := decide_eq_true (by omega)
        have hmk : m = k + 1 := by omega
        have Hm1 := Lib.hid (Hm.out k hlt)
        rw [← hmk] at Hm1
        have Hs1 := Lib.hid (Hsn.out k)
        have hgl := Hgl.out k hlt
        clear hmk
        generalize gn f bad k = tk at *
        obtain ⟨e0, e1, e2, e3, e4, e5⟩ := hD.six
        go_wp2_with fail
        refine (Hm1.out _).mono ?_
        rintro e w5 ⟨rfl, hb5⟩
        have hO3 := own_up hO hb5
        have hR3 := hRX.up hb5
        have hD3 := hD.up hb5
        have hB3 := nx hB hb5
        clear e0 e1 e2 e3 e4 e5 hO hRX hD hB hb5
        go_wp2_with (at_builtin; refine wpList_append_own _ rfl _ _ 51 rfl (w.heap.size + 2) 3 i0 (.int .i64 0) 1 8 Try.underlying51 Hi.out.1 Hi.out.2.1 Hi.out.2.2.1 Hi.out.2.2.2 rfl (by decide) _ _ _ rfl (hO3.alloc _) ⟨w5.heap.size, 0, none⟩ 1 1 [.int .i64 (tk : Nat)] rfl rfl ?c1 ?c2 ?c3 ?c4 ?c5 ?_)
        case c1 => exact news_one (cell_one _ _ _)
        case c2 => intro u hu; simp at hu; subst hu; rfl
        case c3 => unfold maxLen; omega
        case c4 => omega
        case c5 => have := hR3.lt; simp; omega
        · intro v' w4 hO4 hg4 _
          have hB4 := (na hB3 (.cells #[.int .i64 (tk : Nat)] 3)).grown hg4 (by rw [size_alloc]; have := hB3.size; omega) (fun t e => by have := (hO3.lt t e).1; omega)
          have hR4 := keptO (hR3.past (.cells #[.int .i64 (tk : Nat)] 3)) hg4 (fun e => by have := (hO3.lt _ e.symm).1; omega)
          have hD4 := keptO (hD3.past (.cells #[.int .i64 (tk : Nat)] 3)) hg4 (fun e => by have := (hO3.lt _ e.symm).1; omega)
          rw [Hs1.out] at hO4
          clear hg4 hO3
          go_wp2_with fail
          go_roundw
          case rel => exact ⟨k + 1, m + 1, by omega, by omega, by go_num, hO4, hR4, hD4, hB4⟩
          case measure => simp [intOf]; omega
      · obtain rfl : k = 10 := by omega
        have hit : decide ((m : Int) ≤ 10) = false := decide_eq_false (by omega)
        have hitN : decide (m ≤ 10) = false := decide_eq_false (by omega)
        obtain ⟨b, c, rfl, hb, hA⟩ := own_list hO (by omega)
        clear hO hD
        go_wp2_with fail
        refine (Hfm.out _ _ _ hA).mono ?_
        rintro e w5 ⟨rfl, hw5⟩
        have hw5 := hw5.symm
        subst hw5
        go_wp2_with fail
        refine (Ho.out _).mono ?_
        rintro e w6 ⟨rfl, hw6⟩
        have hw6 := hw6.symm
        subst hw6
        go_wp2_with fail
        refine (Hcut.out _).mono ?_
        rintro e w7 ⟨rfl, hb7⟩
        have hRX := hRX.up hb7
        have hB := nx hB hb7
        clear hb7
        have c0 := hRX.cell 0 (by omega)
        have c1 := hRX.cell 1 (by omega)
        have z0 := hRX.free 0
        have z1 := hRX.free 1
        go_wp2_with fail
        refine ret_tct (b := w.heap.size + 1) (n := 2) (f := fr x0 y0) Try.results45 rfl rfl rfl Try.underlying30 (by kernel_rfl) (fin2' hRX _ _) rfl ⟨rfl, ?_⟩
        exact (hB.setCell (p := ⟨w.heap.size + 1, 0, none⟩) (Nat.le_succ _) _).setCell (p := ⟨w.heap.size + 1, 1, none⟩) (Nat.le_succ _) _

set_option maxRecDepth 100000 in
set_option maxHeartbeats 16000000 in
theorem specBHold_any (d : Nat → Int) (bad : Int) (w : World) :
    Calls Try.prog 44 #[dv d, .int .i64 bad] w fun e w' => e = .returned (.tuple #[.int .i64 (bhp d bad), v2 (bhx d bad) (bhy d bad), .bool (okT d bad 1)]) ∧ Below w.heap.size w w' := by
  have hc := fun w => l7Turn_any d bad 1 w
  unfold dv at hc
  have Hc := Lib.hid hc; clear hc
  cases hok : okT d bad 1
  · rw [hok] at Hc
    rw [(bh_no hok).1, (bh_no hok).2.1, (bh_no hok).2.2]
    clear hok
    unfold dv
    have hB := na (na (n0 w) (sixO d 22)) (.cells #[.int .i64 0, .int .i64 0] 30)
    have hD := (At.new6 w d 22 rfl).past (.cells #[.int .i64 0, .int .i64 0] 30)
    have hRX := At.new2 (w.alloc (sixO d 22)) 30
    rw [size_alloc] at hRX
    obtain ⟨e0, e1, e2, e3, e4, e5⟩ := hD.six
    go_enter Try.func44, Try.ntmps44
    go_wp2_with fail
    refine (Hc.out _).mono ?_
    rintro e w1 ⟨rfl, hb1⟩
    have hD := hD.up hb1
    have hRX := hRX.up hb1
    have hB := nx hB hb1
    clear hb1
    clear e0 e1 e2 e3 e4 e5
    have c0 := hRX.cell 0 (by omega)
    have c1 := hRX.cell 1 (by omega)
    have z0 := hRX.free 0
    have z1 := hRX.free 1
    go_wp2_with fail
    refine ret_tct (b := w.heap.size + 1) (n := 2) (f := fr 0 0) Try.results44 rfl rfl rfl Try.underlying30 (by kernel_rfl) (fin2' hRX _ _) rfl ⟨rfl, ?_⟩
    exact (hB.setCell (p := ⟨w.heap.size + 1, 0, none⟩) (Nat.le_succ _) _).setCell (p := ⟨w.heap.size + 1, 1, none⟩) (Nat.le_succ _) _
  · rw [hok] at Hc
    obtain ⟨hr, ⟨hb1, hb2⟩, _, _⟩ := of_okT hok
    obtain ⟨bad, rfl⟩ : ∃ m : Nat, bad = m := ⟨bad.toNat, by omega⟩
    rw [(bh_yes hok).1, (bh_yes hok).2.1, (bh_yes hok).2.2]
    have hd := faces_of hr
    generalize face d = f at *
    clear hok hr
    have hfp : ∀ j, j < 6 → 1 ≤ f j := fun j hj => (hd j hj).2.1
    have hf30 : ∀ j, j < 6 → f j ≤ 30 := fun j hj => (hd j hj).2.2
    have hm : ∀ k, k < 10 → ∀ w, Calls Try.prog 77 #[dv d, .int .i64 bad, .int .i64 (k + 1 : Nat)] w fun e w' => e = .returned (v2 (cn (gn f bad k) : Nat) (cd (gn f bad k) : Nat)) ∧ Below w.heap.size w w' := fun k hk w => by
      have h := specHMean_any d f bad (k + 1) w hd (by omega) (by omega)
      rw [← (gain_cut bad hfp hf30 (show 1 ≤ k + 1 by omega) (show k + 1 ≤ 10 by omega)).1, ← (gain_cut bad hfp hf30 (show 1 ≤ k + 1 by omega) (show k + 1 ≤ 10 by omega)).2] at h
      exact h
    unfold dv at hm
    have Hm := Lib.hid hm
    have Hm0 : Hid (∀ w, Calls Try.prog 77 #[.agg #[.int .i64 (d 0), .int .i64 (d 1), .int .i64 (d 2), .int .i64 (d 3), .int .i64 (d 4), .int .i64 (d 5)], .int .i64 bad, .int .i64 1] w fun e w' => e = .returned (v2 (cn (gn f bad 0) : Nat) (cd (gn f bad 0) : Nat)) ∧ Below w.heap.size w w') := fun w => hm 0 (by omega) w
    clear hm hd hfp hf30
    have Hls := Lib.hid (fun k (hk : k + 1 < 10) w => less_mean (bm f bad (k + 1)) (gn f bad (k + 1)) w (bm_le f bad (by omega)) (gn_le f bad hk))
    have Hst := Lib.hid (fun k => top_step f bad k)
    have Htl := Lib.hid (fun k => top_lt f bad k)
    have ht0 := top_zero f bad
    unfold dv
    have hB := na (na (n0 w) (sixO d 22)) (.cells #[.int .i64 0, .int .i64 0] 30)
    have hD := (At.new6 w d 22 rfl).past (.cells #[.int .i64 0, .int .i64 0] 30)
    have hRX := At.new2 (w.alloc (sixO d 22)) 30
    rw [size_alloc] at hRX
    obtain ⟨e0, e1, e2, e3, e4, e5⟩ := hD.six
    go_enter Try.func44, Try.ntmps44
    go_wp2_with fail
    refine (Hc.out _).mono ?_
    rintro e w1 ⟨rfl, hb1⟩
    have hD := hD.up hb1
    have hRX := hRX.up hb1
    have hB := nx hB hb1
    clear hb1
    clear e0 e1 e2 e3 e4 e5
    obtain ⟨e0, e1, e2, e3, e4, e5⟩ := hD.six
    go_wp2_with fail
    refine (Hm0.out _).mono ?_
    rintro e w2 ⟨rfl, hb2⟩
    have hD := hD.up hb2
    have hRX := hRX.up hb2
    have hB := nx hB hb2
    clear hb2
    clear e0 e1 e2 e3 e4 e5
    rw [← ht0.2]
    have hM := At.newv (cn (bm f bad 1) : Nat) (cd (bm f bad 1) : Nat) w2
    have hD := hD.past (.cells #[.int .i64 (cn (bm f bad 1) : Nat), .int .i64 (cd (bm f bad 1) : Nat)] 30)
    have hRX0 := hRX.lt
    have hRX := hRX.past (.cells #[.int .i64 (cn (bm f bad 1) : Nat), .int .i64 (cd (bm f bad 1) : Nat)] 30)
    have hB := na hB (.cells #[.int .i64 (cn (bm f bad 1) : Nat), .int .i64 (cd (bm f bad 1) : Nat)] 30)
    have Ht0 := Lib.hid ht0
    go_wp2_with fail
    generalize w2.heap.size = mb at *
    go_loopw [7, 9] (fun bv kv wr => ∃ k m : Nat, (m ≤ k + 2 ∧ k + 2 ≤ m) ∧ k ≤ 9 ∧ kv = .int .i64 m ∧ bv = .int .i64 (((top (FG f bad) (k + 1)).1 + 1 : Nat) : Int) ∧ At wr mb 2 (fr (cn (bm f bad (k + 1)) : Nat) (cd (bm f bad (k + 1)) : Nat)) ∧ At wr (w.heap.size + 1) 2 (fun _ => 0) ∧ At wr w.heap.size 6 d ∧ Below w.heap.size w wr) (fun _ kv _ => 11 - (intOf kv).toNat)
    case atStart => exact ⟨0, 2, by omega, by omega, rfl, by rw [Ht0.out.1]; rfl, hM, hRX, hD, hB⟩
    case round =>
      clear hM hRX hD hB ht0 Ht0
      obtain ⟨k, m, ⟨hm1, hm2⟩, hk, rfl, rfl, hM, hRX, hD, hB⟩ := hrel
      by_cases hlt : k < 9
      · have hit : decide ((m : Int) ≤ 10) = true := decide_eq_true (by omega)
        have hitN : decide (m ≤ 10) = true := decide_eq_true (by omega)
        have hmk : m = k + 1 + 1 := by omega
        have Hm1 := Lib.hid (Hm.out (k + 1) (by omega))
        rw [← hmk] at Hm1
        clear hmk
        have Hl1 := Lib.hid (Hls.out k (by omega))
        have Hs1 := Lib.hid (Hst.out k)
        have htl := Htl.out k
        obtain ⟨e0, e1, e2, e3, e4, e5⟩ := hD.six
        go_wp2_with fail
        refine (Hm1.out _).mono ?_
        rintro e w5 ⟨rfl, hb5⟩
        have hM5 := (hM.up hb5).past (.cells #[.int .i64 (cn (gn f bad (k + 1)) : Nat), .int .i64 (cd (gn f bad (k + 1)) : Nat)] 30)
        have hX5 := At.newv (cn (gn f bad (k + 1)) : Nat) (cd (gn f bad (k + 1)) : Nat) w5
        have hR5 := (hRX.up hb5).past (.cells #[.int .i64 (cn (gn f bad (k + 1)) : Nat), .int .i64 (cd (gn f bad (k + 1)) : Nat)] 30)
        have hD5 := (hD.up hb5).past (.cells #[.int .i64 (cn (gn f bad (k + 1)) : Nat), .int .i64 (cd (gn f bad (k + 1)) : Nat)] 30)
        have hB5 := na (nx hB hb5) (.cells #[.int .i64 (cn (gn f bad (k + 1)) : Nat), .int .i64 (cd (gn f bad (k + 1)) : Nat)] 30)
        have hmx := (hM.up hb5).lt
        have hrx := (hRX.up hb5).lt
        clear e0 e1 e2 e3 e4 e5 hM hRX hD hB hb5
        have hss : decide (bm f bad (k + 1) < gn f bad (k + 1)) = decide (bm f bad (k + 1) < gn f bad (k + 1)) := rfl
        generalize hx1 : cn (bm f bad (k + 1)) = x1 at *
        generalize hy1 : cd (bm f bad (k + 1)) = y1 at *
        generalize hx2 : cn (gn f bad (k + 1)) = x2 at *
        generalize hy2 : cd (gn f bad (k + 1)) = y2 at *
        have Hxy := Lib.hid (And.intro hx1 (And.intro hy1 (And.intro hx2 hy2)))
        clear hx1 hy1 hx2 hy2 hss
        have c0 := hM5.cell 0 (by omega)
        have c1 := hM5.cell 1 (by omega)
        have q0 := hX5.cell 0 (by omega)
        have q1 := hX5.cell 1 (by omega)
        rw [show fr (x1 : Int) (y1 : Int) 0 = x1 from rfl] at c0
        rw [show fr (x1 : Int) (y1 : Int) 1 = y1 from rfl] at c1
        rw [show fr (x2 : Int) (y2 : Int) 0 = x2 from rfl] at q0
        rw [show fr (x2 : Int) (y2 : Int) 1 = y2 from rfl] at q1
        go_wp2_with fail
        refine (Hl1.out _).mono ?_
        rintro e w6 ⟨rfl, hb6⟩
        have hM6 := hM5.up hb6
        have hX6 := hX5.up hb6
        have hR6 := hR5.up hb6
        have hD6 := hD5.up hb6
        have hB6 := nx hB5 hb6
        clear c0 c1 q0 q1 hM5 hX5 hR5 hD5 hB5 hb6
        by_cases hl : bm f bad (k + 1) < gn f bad (k + 1)
        · have hdl : decide (bm f bad (k + 1) < gn f bad (k + 1)) = true := decide_eq_true hl
          have Hs2 := Lib.hid (Hs1.out.1 hl)
          rw [hdl]
          clear hdl hl
          have q0 := hX6.cell 0 (by omega)
          have q1 := hX6.cell 1 (by omega)
          rw [show fr (x2 : Int) (y2 : Int) 0 = x2 from rfl] at q0
          rw [show fr (x2 : Int) (y2 : Int) 1 = y2 from rfl] at q1
          have c0 := hM6.cell 0 (by omega)
          have c1 := hM6.cell 1 (by omega)
          have z0 := hM6.free 0
          have z1 := hM6.free 1
          go_wp2_with fail
          go_roundw
          case rel => exact ⟨k + 1, m + 1, by omega, by omega, by go_num, by rw [Hs2.out.1]; congr 1; omega, by rw [Hs2.out.2, Hxy.out.2.2.1, Hxy.out.2.2.2]; exact fin2' hM6 _ _, (hR6.other (by omega) _ _).other (by omega) _ _, (hD6.other (by omega) _ _).other (by omega) _ _, (hB6.setCell (p := ⟨mb, 0, none⟩) (by show w.heap.size ≤ mb; omega) _).setCell (p := ⟨mb, 1, none⟩) (by show w.heap.size ≤ mb; omega) _⟩
          case measure => simp [intOf]; omega
        · have hdl : decide (bm f bad (k + 1) < gn f bad (k + 1)) = false := decide_eq_false hl
          have Hs2 := Lib.hid (Hs1.out.2 hl)
          rw [hdl]
          clear hdl hl
          go_wp2_with fail
          go_roundw
          case rel => exact ⟨k + 1, m + 1, by omega, by omega, by go_num, by rw [Hs2.out.1, Int.natCast_add]; rfl, by rw [Hs2.out.2, Hxy.out.1, Hxy.out.2.1]; exact hM6, hR6, hD6, hB6⟩
          case measure => simp [intOf]; omega
      · obtain rfl : k = 9 := by omega
        have hit : decide ((m : Int) ≤ 10) = false := decide_eq_false (by omega)
        have hitN : decide (m ≤ 10) = false := decide_eq_false (by omega)
        replace hM : At wr mb 2 (fr (cn (bm f bad 10) : Nat) (cd (bm f bad 10) : Nat)) := hM
        have c0 := hM.drew.cell 0 (by omega)
        have c1 := hM.drew.cell 1 (by omega)
        have q0 := hRX.drew.cell 0 (by omega)
        have q1 := hRX.drew.cell 1 (by omega)
        have z0 := hRX.drew.free 0
        have z1 := hRX.drew.free 1
        have hR' := hRX.drew
        have hB' := hB.drew
        have q0' := hRX.cell 0 (by omega)
        have q1' := hRX.cell 1 (by omega)
        have z0' := hRX.free 0
        have z1' := hRX.free 1
        rw [show fr ((cn (bm f bad 10) : Nat) : Int) ((cd (bm f bad 10) : Nat) : Int) 0 = ((cn (bm f bad 10) : Nat) : Int) from rfl] at c0
        rw [show fr ((cn (bm f bad 10) : Nat) : Int) ((cd (bm f bad 10) : Nat) : Int) 1 = ((cd (bm f bad 10) : Nat) : Int) from rfl] at c1
        go_wp2_with fail
        go_region
        all_goals
          go_wp2_with fail
          refine ret_tct (b := w.heap.size + 1) (n := 2) (f := fr ((cn (bm f bad 10) : Nat) : Int) ((cd (bm f bad 10) : Nat) : Int)) Try.results44 rfl rfl rfl Try.underlying30 (by kernel_rfl) (fin2' hR' _ _) rfl ⟨rfl, ?_⟩
          exact (hB'.setCell (p := ⟨w.heap.size + 1, 0, none⟩) (Nat.le_succ _) _).setCell (p := ⟨w.heap.size + 1, 1, none⟩) (Nat.le_succ _) _


end BHold
end Go.Proofs.Ytcffglnfdnanhaa
