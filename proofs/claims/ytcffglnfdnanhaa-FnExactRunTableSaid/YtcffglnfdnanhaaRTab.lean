/-
  RunTable, both sides.
-/
import Derived.Test.YtcffglnfdnanhaaRows
import Derived.Test.YtcffglnfdnanhaaArr
import Derived.Test.YtcffglnfdnanhaaAnyR
import Derived.Test.YtcffglnfdnanhaaDieW
import Derived.Test.YtcffglnfdnanhaaSortW
import Derived.Test.YtcffglnfdnanhaaFracW
import Derived.Test.YtcffglnfdnanhaaFracL
import Derived.Test.YtcffglnfdnanhaaCutW
import Derived.Test.YtcffglnfdnanhaaAll6
import Derived.Test.YtcffglnfdnanhaaAllL
import Derived.Test.YtcffglnfdnanhaaOwnL
import Derived.Test.YtcffglnfdnanhaaFracM
import Derived.Test.YtcffglnfdnanhaaStopM
import Derived.Test.YtcffglnfdnanhaaRunM
import Derived.Test.YtcffglnfdnanhaaRunI
import Derived.Test.YtcffglnfdnanhaaRunS
import Derived.Test.YtcffglnfdnanhaaRunW
import Derived.Test.YtcffglnfdnanhaaPairsL
import Derived.Test.YtcffglnfdnanhaaOpenD
import Derived.WalkKit
import Derived.OwnWalk
import Derived.Lib.AppendZeros
import Derived.Deep.WholeRow
import Derived.Deep.RegionHeld3
import Derived.Deep.AppendLies
import Derived.WalkLawsBesides
import Derived.WalkSpells
import Derived.ProofKit
import Derived.OpenShut
import Derived.Deep.RegionWith
import Derived.Deep.QuietTactic
import Derived.BigQuiet
namespace Go.Proofs.Ytcffglnfdnanhaa
open Go.ChangeShapes Go.WideShapes Go.ChangeAt Go.RowKit
open Go.ChangeMaps (open_string shut_string)

namespace RTab
open Dice Arr DieW SortW FracW CutW All6 AllL OwnL FracM StopM RunM RunI RunS RunW PairsL Go.Deep

/-- The chances of the table. -/
def cx (f : Nat → Nat) (g k : Nat) : Nat := num (T f g k) (6 ^ (k + 1))
def cy (f : Nat → Nat) (g k : Nat) : Nat := den (T f g k) (6 ^ (k + 1))
def lenR (d : Nat → Int) (g : Int) : Nat := if okR d g then g.toNat else 0
theorem lenR_small (d : Nat → Int) (g : Int) : lenR d g ≤ 8 := by
  unfold lenR
  split
  · rename_i h
    have := of_okR h
    omega
  · omega
theorem lenR_no {d : Nat → Int} {g : Int} (h : okR d g = false) : lenR d g = 0 := by simp [lenR, h]
theorem lenR_yes {d : Nat → Int} {g : Nat} (h : okR d g = true) : lenR d g = g := by simp [lenR, h]
def rt (d : Nat → Int) (g : Int) : Nat → Int := pf (cx (face d) g.toNat) (cy (face d) g.toNat)

theorem news_two {w : World} {b : Nat} {x y : Value} (h : w.cell? ⟨b, 0, none⟩ = some x ∧ w.cell? ⟨b, 1, none⟩ = some y) : ∀ j u, ([x, y] : List Value)[j]? = some u → w.cell? ((⟨b, 0, none⟩ : Addr).add j) = some u := by
  intro j u hj
  match j, hj with
  | 0, hj => simp at hj; subst hj; simpa [Addr.add] using h.1
  | 1, hj => simp at hj; subst hj; simpa [Addr.add] using h.2
theorem cells_two (w : World) (x y : Value) (t : TypeId) : (w.alloc (.cells #[x, y] t)).cell? ⟨w.heap.size, 0, none⟩ = some x ∧ (w.alloc (.cells #[x, y] t)).cell? ⟨w.heap.size, 1, none⟩ = some y := by
  constructor
  · rw [World.cell?_alloc_at _ _ _ _ rfl]; rfl
  · rw [World.cell?_alloc_at _ _ _ _ rfl]; rfl

set_option maxRecDepth 100000 in
set_option maxHeartbeats 16000000 in
theorem implTab_any (d : Nat → Int) (g : Int) (w : World) :
    Calls Try.prog 17 #[dv d, .int .i64 g] w fun e w' => ∃ A c, e = .returned (.tuple #[.slice A (lenR d g) c, .bool (okR d g)]) ∧ Pairs w.heap.size w' A (lenR d g) (rt d g) ∧ Below w.heap.size w w' := by
  have hc := fun w => canRun_any d g w
  unfold dv at hc
  have Hc := Lib.hid hc; clear hc
  cases hok : okR d g
  · rw [hok] at Hc
    rw [lenR_no hok]
    clear hok
    unfold dv
    have hB0 := na (n0 w) (sixO d 22)
    have hD0 := At.new6 w d 22 rfl
    obtain ⟨e0, e1, e2, e3, e4, e5⟩ := hD0.six
    go_enter Try.func17, Try.ntmps17
    go_wp2_with fail
    refine (Hc.out _).mono ?_
    rintro e w1 ⟨rfl, hb1⟩
    clear e0 e1 e2 e3 e4 e5
    go_wp2_with fail
    go_ret2
    exact ⟨_, _, rfl, .inl rfl, nx hB0 hb1⟩
  · rw [hok] at Hc
    obtain ⟨hr, h1, h8⟩ := of_okR hok
    obtain ⟨g, rfl⟩ : ∃ m : Nat, g = m := ⟨g.toNat, by omega⟩
    rw [lenR_yes hok]
    unfold rt
    rw [Int.toNat_natCast]
    have hd := faces_of hr
    generalize face d = f at *
    clear hok hr
    have hm := fun w => implEnds_any d f g w hd (by omega) (by omega)
    unfold dv at hm
    have Hm := Lib.hid hm; clear hm hd
    have Ho := Lib.hid (fun w => outcomesL 8 w (by omega))
    rw [show all6 8 = 1679616 from by decide] at Ho
    have he := fun k (hk : k < g) => ends_one f (g := g) (j := k) (by omega) (by omega) hk
    have hcut : ∀ k, k < g → ∀ w, Calls Try.prog 59 #[.int .i64 (ends f g k : Nat), .int .i64 1679616] w fun e w' => e = .returned (v2 (cx f g k : Nat) (cy f g k : Nat)) ∧ Below w.heap.size w w' := fun k hk w => by
      have h := FracL.fractionL (ends f g k) 1679616 w (by have := he k hk; omega) (by omega) (by omega)
      have e := run_cut f (g := g) (j := k) (by omega) hk
      unfold cx cy
      rw [← e.1, ← e.2]
      exact h
    have Hcut := Lib.hid hcut; clear hcut he
    have Hsn := Lib.hid (fun n => pf_snoc (cx f g) (cy f g) n)
    obtain ⟨i2, hi2, hz0, hz1, hz2⟩ := info_parts info2
    have H2 := Lib.hid (And.intro hi2 (And.intro hz0 (And.intro hz1 hz2)))
    clear hi2 hz0 hz1 hz2
    unfold dv
    have hB0 := na (n0 w) (sixO d 22)
    have hD0 := At.new6 w d 22 rfl
    obtain ⟨e0, e1, e2, e3, e4, e5⟩ := hD0.six
    go_enter Try.func17, Try.ntmps17
    go_wp2_with fail
    refine (Hc.out _).mono ?_
    rintro e w1 ⟨rfl, hb1⟩
    have hD1 := hD0.up hb1
    have hB1 := nx hB0 hb1
    clear e0 e1 e2 e3 e4 e5
    obtain ⟨e0, e1, e2, e3, e4, e5⟩ := hD1.six
    go_wp2_with fail
    refine (Hm.out _).mono ?_
    rintro e w2 ⟨b, rfl, hb, hA, hb2⟩
    have hB2 := nx hB1 hb2
    clear e0 e1 e2 e3 e4 e5
    clear hD0 hD1 hB0 hB1 hb1 hb2
    go_wp2_with fail
    go_loopw [6, 17] (fun mv kv wr => ∃ k : Nat, k ≤ g ∧ kv = .int .i64 k ∧ wr.ownsRow w2.heap.size 30 2 mv k (vals (k * 2) (pf (cx f g) (cy f g))) ∧ Below w2.heap.size w2 wr) (fun _ kv _ => g - (intOf kv).toNat)
    case atStart => exact ⟨0, by omega, rfl, World.ownsRow_nil _ _ _ _, Below.refl _ _⟩
    case round =>
      obtain ⟨k, hk, rfl, hO, hB⟩ := hrel
      by_cases hlt : k < g
      · have hit : decide ((k : Int) < (g : Int)) = true := decide_eq_true (by omega)
        have ck := (hA.up hB).cell k hlt
        have Hc1 := Lib.hid (Hcut.out k hlt)
        have Hs1 := Lib.hid (Hsn.out k)
        generalize ends f g k = x at *
        generalize hcx : cx f g k = cx0 at *
        generalize hcy : cy f g k = cy0 at *
        clear hcx hcy
        go_wp2_with fail
        refine (Ho.out _).mono ?_
        rintro e w5 ⟨rfl, hw5⟩
        have hw5 := hw5.symm
        subst hw5
        go_wp2_with fail
        refine (Hc1.out _).mono ?_
        rintro e w6 ⟨rfl, hb6⟩
        have hB6 := nx hB hb6
        have hO6 := own_up hO hb6
        have hsz6 := hB6.size
        clear hB hb6 hO
        go_wp2_with (at_builtin; refine wpList_append_own _ rfl _ _ 23 rfl w2.heap.size 30 i2 (.agg #[.int .i64 0, .int .i64 0]) 2 16 Try.underlying23 H2.out.1 H2.out.2.1 H2.out.2.2.1 H2.out.2.2.2 rfl (by decide) _ _ _ rfl (hO6.alloc _) ⟨w6.heap.size, 0, none⟩ 1 1 [.int .i64 (cx0 : Int), .int .i64 (cy0 : Int)] rfl rfl ?c1 ?c2 ?c3 ?c4 ?c5 ?_)
        case c1 =>
          intro t u ht
          match t, ht with
          | 0, ht => simp at ht; subst ht; simp [Addr.add]
          | 1, ht => simp at ht; subst ht; simp [Addr.add]
        case c2 => intro u hu; simp at hu; rcases hu with rfl | rfl <;> rfl
        case c3 => unfold maxLen; omega
        case c4 => omega
        case c5 => simp; omega
        · intro v' w4 hO4 hg4 _
          have hB4 := (hB6.alloc hsz6 (.cells #[.int .i64 (cx0 : Int), .int .i64 (cy0 : Int)] 30)).grown hg4 (by rw [size_alloc]; omega) (fun t e => (hO6.lt t e).1)
          have hO5 : w4.ownsRow w2.heap.size 30 2 v' (k + 1) (vals ((k + 1) * 2) (pf (cx f g) (cy f g))) := by rw [← Hs1.out]; exact hO4
          clear hg4 hO4 hO6 hB6
          go_wp2_with fail
          go_roundw
          case rel => exact ⟨k + 1, by omega, by go_num, hO5, hB4⟩
          case measure => simp [intOf]; omega
      · obtain rfl : k = g := by omega
        have hit : decide ((k : Int) < (k : Int)) = false := decide_eq_false (by omega)
        obtain ⟨A', c', rfl, hI⟩ := pairs_own hO
        go_wp2_with fail
        go_ret2
        exact ⟨_, _, rfl, hI.mono hB2.size, hB2.trans (hB.mono hB2.size)⟩

set_option maxRecDepth 100000 in
set_option maxHeartbeats 16000000 in
theorem specTab_any (d : Nat → Int) (g : Int) (w : World) :
    Calls Try.prog 15 #[dv d, .int .i64 g] w fun e w' => ∃ A c, e = .returned (.tuple #[.slice A (lenR d g) c, .bool (okR d g)]) ∧ Pairs w.heap.size w' A (lenR d g) (rt d g) ∧ Below w.heap.size w w' := by
  have hc := fun w => specRunner_any d w
  unfold dv at hc
  have Hc := Lib.hid hc; clear hc
  have hgo := fun w => specGoal_any g w
  cases hr : isRun d
  · rw [hr] at Hc
    have hok : okR d g = false := okR_die hr
    rw [hok, lenR_no hok]
    clear hok hr hgo
    unfold dv
    have hB0 := na (na (n0 w) (sixO d 22)) (.cells #[] 30)
    have hD0 := (At.new6 w d 22 rfl).past (.cells #[] 30)
    have hO0 := World.ownsRow_made (w.alloc (sixO d 22)) (e := 30) (size := 2) #[] 0 (base := w.heap.size + 1) (by rw [size_alloc]; exact Nat.le_refl _) (by decide) rfl
    rw [size_alloc] at hO0
    obtain ⟨e0, e1, e2, e3, e4, e5⟩ := hD0.six
    go_enter Try.func15, Try.ntmps15
    go_wp2_with fail
    refine (Hc.out _).mono ?_
    rintro e w1 ⟨rfl, hb1⟩
    clear e0 e1 e2 e3 e4 e5
    go_wp2_with fail
    go_ret2
    exact ⟨_, _, rfl, .inl rfl, nx hB0 hb1⟩
  · rw [hr] at Hc
    by_cases hgg : 1 ≤ g ∧ g ≤ 8
    · rw [decide_eq_true hgg] at hgo
      have hok : okR d g = true := okR_yes hr hgg.1 hgg.2
      have Hg := Lib.hid hgo; clear hgo
      obtain ⟨h1, h8⟩ := hgg
      obtain ⟨g, rfl⟩ : ∃ m : Nat, g = m := ⟨g.toNat, by omega⟩
      rw [hok, lenR_yes hok]
      unfold rt
      rw [Int.toNat_natCast]
      have hd := faces_of hr
      generalize face d = f at *
      clear hok hr
      have hm := fun w => specRun_any d f g w hd (by omega) (by omega)
      unfold dv at hm
      have Hm := Lib.hid hm; clear hm hd
      have hte := fun k (hk : k < g) => Nat.le_trans (T_le f (g := g) (by omega) k) (pow_six (show k + 1 ≤ 8 by omega)).1
      have hcut : ∀ k, k < g → ∀ w, Calls Try.prog 55 #[.int .i64 (T f g k : Nat), .int .i64 (6 ^ (k + 1) : Nat)] w fun e w' => e = .returned (v2 (cx f g k : Nat) (cy f g k : Nat)) ∧ Below w.heap.size w w' := fun k hk w => FracL.cutL (T f g k) (6 ^ (k + 1)) w (by have := hte k hk; omega) (by have := pow_six (show k + 1 ≤ 8 by omega); omega) (pow_six (show k + 1 ≤ 8 by omega)).2
      have Hcut := Lib.hid hcut; clear hcut
      have Hte := Lib.hid hte; clear hte
      have Hall := Lib.hid (fun n w (h : n ≤ 16) => l2AllL n w h)
      have Hsn := Lib.hid (fun n => pf_snoc (cx f g) (cy f g) n)
      obtain ⟨i2, hi2, hz0, hz1, hz2⟩ := info_parts info2
      have H2 := Lib.hid (And.intro hi2 (And.intro hz0 (And.intro hz1 hz2)))
      clear hi2 hz0 hz1 hz2
      unfold dv
      have hB0 := na (na (n0 w) (sixO d 22)) (.cells #[] 30)
      have hD0 := (At.new6 w d 22 rfl).past (.cells #[] 30)
      have hO0 := World.ownsRow_made (w.alloc (sixO d 22)) (e := 30) (size := 2) #[] 0 (base := w.heap.size + 1) (by rw [size_alloc]; exact Nat.le_refl _) (by decide) rfl
      rw [size_alloc] at hO0
      obtain ⟨e0, e1, e2, e3, e4, e5⟩ := hD0.six
      go_enter Try.func15, Try.ntmps15
      go_wp2_with fail
      refine (Hc.out _).mono ?_
      rintro e w1 ⟨rfl, hb1⟩
      have hD1 := hD0.up hb1
      have hB1 := nx hB0 hb1
      have hO1 := own_up hO0 hb1
      have hsz1 := hD0.lt
      clear e0 e1 e2 e3 e4 e5
      go_wp2_with fail
      refine (Hg.out _).mono ?_
      rintro e w2 ⟨rfl, hw2⟩
      have hw2 := hw2.symm
      subst hw2
      obtain ⟨e0, e1, e2, e3, e4, e5⟩ := hD1.six
      go_wp2_with fail
      refine (Hm.out _).mono ?_
      rintro e w3 ⟨b, c, rfl, hb, hA, hb3⟩
      have hB3 := nx hB1 hb3
      have hO3 := own_up hO1 hb3
      have hwb : w.heap.size + 1 < w1.heap.size := by
        have := hb1.size
        rw [size_alloc, size_alloc] at this
        omega
      clear e0 e1 e2 e3 e4 e5
      clear hD0 hD1 hB0 hB1 hO0 hO1 hb1 hsz1
      go_wp2_with fail
      go_loopw [6, 8] (fun mv kv wr => ∃ k n : Nat, (n ≤ k + 1 ∧ k + 1 ≤ n) ∧ k ≤ g ∧ kv = .int .i64 n ∧ wr.ownsRow (w.heap.size + 1) 30 2 mv k (vals (k * 2) (pf (cx f g) (cy f g))) ∧ At wr b (g + 1) (outF f g) ∧ some b ≠ mv.ownBlock ∧ Below w.heap.size w wr) (fun _ kv _ => g + 1 - (intOf kv).toNat)
      case atStart => exact ⟨0, 1, by omega, by omega, rfl, hO3, hA, fun e => by simp [Value.ownBlock] at e; omega, hB3⟩
      case round =>
        clear hA hB3 hO3
        obtain ⟨k, n, ⟨hn1, hn2⟩, hk, rfl, hO, hA, hne, hB⟩ := hrel
        by_cases hlt : k < g
        · have hit : decide ((n : Int) ≤ (g : Int)) = true := decide_eq_true (by omega)
          have hn : n = k + 1 := by omega
          have Ho := Lib.hid (fun w => Hall.out n w (by omega))
          have Hc1 := Lib.hid (Hcut.out k hlt)
          have hT := Hte.out k hlt
          have hpw := pow_six (show n ≤ 8 by omega)
          rw [show all6 n = 6 ^ n from rfl] at Ho
          rw [← hn] at Hc1
          have HB := Lib.hid hB.drew
          have HA := Lib.hid hA.drew
          have HO := Lib.hid hO.drew
          have eo : outF f g n = ((T f g k : Nat) : Int) := by subst hn; rfl
          have ck := hA.drew.cell n (by omega)
          rw [eo] at ck
          have Heo := Lib.hid eo
          have Hs1 := Lib.hid (Hsn.out k)
          have Hn := Lib.hid hn
          clear hn eo hB hA hO
          have hx1 : (0 : Int) ≤ (n : Int) := by omega
          have hx2 : (n : Int) < (g : Int) + 1 := by omega
          have hx3 : n < g + 1 := by omega
          have hx4 : (n : Int) ≤ (g : Int) := by omega
          generalize T f g k = x at *
          generalize hcx : cx f g k = cx0 at *
          generalize hcy : cy f g k = cy0 at *
          generalize 6 ^ n = W at *
          clear hcx hcy
          go_wp2_with fail
          go_region_held3 (fun w' => w'.cell? ⟨b, n, none⟩ = some (.int .i64 (x : Int))) (go_keep) (first | (go_at_call 56; refine (Ho.out _).mono ?_; rintro e w6 ⟨rfl, hw6⟩; have hw6 := hw6.symm; subst hw6) | (go_at_call 55; refine (Hc1.out _).mono ?_; rintro e w7 ⟨rfl, hb7⟩; have q4 := (HA.out.up hb7).cell n (by omega); rw [Heo.out] at q4) | (refine step_append_lies _ (by rfl) _ _ 23 (by rfl) (w.heap.size + 1) 30 i2 (.agg #[.int .i64 0, .int .i64 0]) 2 16 Try.underlying23 H2.out.1 H2.out.2.1 H2.out.2.2.1 H2.out.2.2.2 rfl (by decide) _ k (vals (k * 2) (pf (cx f g) (cy f g))) (by rfl) ((own_up HO.out hb7).alloc _) ⟨w7.heap.size, 0, none⟩ 1 1 [.int .i64 (cx0 : Int), .int .i64 (cy0 : Int)] (by rfl) rfl (news_two (cells_two _ _ _ _)) (by intro u hu; simp at hu; rcases hu with rfl | rfl <;> rfl) (by omega) (by unfold maxLen; omega) (by omega) (by have := HB.out.size; have := hb7.size; have := HA.out.lt; simp; omega) (w7.heap.size + 1) (by simp) ?_; intro g9 c9 w9 hO9 hg9 hat9 hlt9; have hA9 := keptO ((HA.out.up hb7).past _) hg9 hne; have q6 := hA9.cell n (by omega); rw [Heo.out] at q6))
          have hB7 := nx HB.out hb7
          have hB8 := na hB7 (.cells #[.int .i64 (cx0 : Int), .int .i64 (cy0 : Int)] 30)
          have hB9 := hB8.grown hg9 (by have := hB8.size; omega) (fun t e => by have := (HO.out.lt t e).1; omega)
          have hO10 : w9.ownsRow (w.heap.size + 1) 30 2 (.slice (some ⟨g9, 0, none⟩) (k + 1) c9) (k + 1) (vals ((k + 1) * 2) (pf (cx f g) (cy f g))) := by rw [← Hs1.out]; exact hO9
          have hne9 : some b ≠ (Value.slice (some ⟨g9, 0, none⟩) (k + 1) c9).ownBlock := fun e => by
            have e : b = g9 := by simpa [Value.ownBlock] using e
            have h1 := HA.out.lt
            have h2 := hb7.size
            rcases hat9 with h | h
            · exact hne (by rw [h, e])
            · omega
          clear ck q4 q6 hB7 hB8 hg9 hlt9 hb7 hO9 hat9
          go_wp2_with fail
          go_roundw
          case rel => exact ⟨k + 1, n + 1, by omega, by omega, by go_num, hO10, hA9, hne9, hB9⟩
          case measure => simp [intOf]; omega
        · obtain rfl : k = g := by omega
          have hit : decide ((n : Int) ≤ (k : Int)) = false := decide_eq_false (by omega)
          obtain ⟨A', c', rfl, hI⟩ := pairs_own hO
          go_wp2_with fail
          go_ret2
          exact ⟨_, _, rfl, hI.mono (by omega), hB⟩
    · rw [decide_eq_false hgg] at hgo
      have hok : okR d g = false := by simp only [okR, decide_eq_false hgg, Bool.and_false]
      have Hg := Lib.hid hgo; clear hgo
      rw [hok, lenR_no hok]
      clear hok hr hgg
      unfold dv
      have hB0 := na (na (n0 w) (sixO d 22)) (.cells #[] 30)
      have hD0 := (At.new6 w d 22 rfl).past (.cells #[] 30)
      have hO0 := World.ownsRow_made (w.alloc (sixO d 22)) (e := 30) (size := 2) #[] 0 (base := w.heap.size + 1) (by rw [size_alloc]; exact Nat.le_refl _) (by decide) rfl
      rw [size_alloc] at hO0
      obtain ⟨e0, e1, e2, e3, e4, e5⟩ := hD0.six
      go_enter Try.func15, Try.ntmps15
      go_wp2_with fail
      refine (Hc.out _).mono ?_
      rintro e w1 ⟨rfl, hb1⟩
      clear e0 e1 e2 e3 e4 e5
      go_wp2_with fail
      refine (Hg.out _).mono ?_
      rintro e w2 ⟨rfl, hw2⟩
      have hw2 := hw2.symm
      subst hw2
      go_wp2_with fail
      go_ret2
      exact ⟨_, _, rfl, .inl rfl, nx hB0 hb1⟩


end RTab
end Go.Proofs.Ytcffglnfdnanhaa
