/-
  Turns that are played, both sides.
-/
import Derived.Test.YtcffglnfdnanhaaRows
import Derived.Test.YtcffglnfdnanhaaArr
import Derived.Test.YtcffglnfdnanhaaAnyR
import Derived.Test.YtcffglnfdnanhaaDieW
import Derived.Test.YtcffglnfdnanhaaSortW
import Derived.Test.YtcffglnfdnanhaaFracW
import Derived.Test.YtcffglnfdnanhaaFracL
import Derived.Test.YtcffglnfdnanhaaCutW
import Derived.Test.YtcffglnfdnanhaaAll6
import Derived.Test.YtcffglnfdnanhaaAllL
import Derived.Test.YtcffglnfdnanhaaOwnL
import Derived.Test.YtcffglnfdnanhaaFracM
import Derived.Test.YtcffglnfdnanhaaStopM
import Derived.Test.YtcffglnfdnanhaaRunM
import Derived.Test.YtcffglnfdnanhaaRunI
import Derived.Test.YtcffglnfdnanhaaRunS
import Derived.Test.YtcffglnfdnanhaaRunW
import Derived.Test.YtcffglnfdnanhaaHoldM
import Derived.Test.YtcffglnfdnanhaaBig40
import Derived.Test.YtcffglnfdnanhaaBig41
import Derived.Test.YtcffglnfdnanhaaHoldI
import Derived.Test.YtcffglnfdnanhaaHoldS
import Derived.Test.YtcffglnfdnanhaaHoldW
import Derived.Test.YtcffglnfdnanhaaRunW
import Derived.Test.YtcffglnfdnanhaaOpenI
import Derived.Test.YtcffglnfdnanhaaOpenD
import Derived.Test.YtcffglnfdnanhaaOpenD
import Derived.WalkKit
import Derived.WalkLawsBesides
import Derived.WalkSpells
import Derived.ProofKit
import Derived.OpenShut
import Derived.Deep.RegionWith
import Derived.Deep.QuietTactic
import Derived.BigQuiet
namespace Go.Proofs.Ytcffglnfdnanhaa
open Go.ChangeShapes Go.WideShapes Go.ChangeAt Go.RowKit
open Go.ChangeMaps (open_string shut_string)

namespace PlayW
open Dice Arr DieW SortW FracW CutW All6 AllL OwnL FracM StopM RunM RunI RunS RunW HoldM HoldI HoldS HoldW OpenG OpenD

/-- A list of integers in memory from block B on. -/
def Ints (B : Nat) (w : World) (A : Option Addr) (n : Nat) (f : Nat → Int) : Prop := n = 0 ∨ ∃ b, A = some ⟨b, 0, none⟩ ∧ B ≤ b ∧ At w b n f
theorem Ints.up {B : Nat} {w w' : World} {A : Option Addr} {n : Nat} {f : Nat → Int} (h : Ints B w A n f) (hb : Below w.heap.size w w') : Ints B w' A n f := by
  rcases h with h | ⟨b, hA, hB, h⟩
  · exact .inl h
  · exact .inr ⟨b, hA, hB, h.up hb⟩
theorem Ints.mono {B B' : Nat} {w : World} {A : Option Addr} {n : Nat} {f : Nat → Int} (h : Ints B w A n f) (hB' : B' ≤ B) : Ints B' w A n f := by
  rcases h with h | ⟨b, hA, hB, h⟩
  · exact .inl h
  · exact .inr ⟨b, hA, by omega, h⟩
theorem Ints.at_ {B : Nat} {w : World} {A : Option Addr} {n : Nat} {f : Nat → Int} (h : Ints B w A n f) {k : Nat} (hk : k < n) : ∃ b, A = some ⟨b, 0, none⟩ ∧ B ≤ b ∧ At w b n f := by
  rcases h with h | h
  · omega
  · exact h
/-- What stays when other blocks than p are written. -/
def Rest (p : Nat) (w w' : World) : Prop := (∀ B, B ≤ p → Below B w w') ∧ ∀ b n f, b ≠ p → At w b n f → At w' b n f

set_option maxHeartbeats 1000000 in
theorem eqInts_any (B B' : Nat) (A A' : Option Addr) (n c c' : Nat) (f : Nat → Int) (w : World) (h : Ints B w A n f) (h' : Ints B' w A' n f) (hn : n ≤ maxLen) :
    Calls Try.prog 49 #[.slice A n c, .slice A' n c'] w fun e w' => e = .returned (.bool true) ∧ Below w.heap.size w w' := by
  unfold maxLen at hn
  have H := Lib.hid h; clear h
  have H' := Lib.hid h'; clear h'
  go_enter Try.func49, Try.ntmps49
  go_wp2_with fail
  go_loopw [5] (fun i wr => ∃ k : Nat, k ≤ n ∧ i = .int .i64 k ∧ Below w.heap.size w wr) (fun i _ => n - (intOf i).toNat)
  case atStart => exact ⟨0, Nat.zero_le _, rfl, n0 w⟩
  case round =>
    obtain ⟨k, hk, rfl, hb⟩ := hrel
    by_cases hlt : k < n
    · obtain ⟨b1, rfl, _, h1⟩ := (H.out.up hb).at_ hlt
      obtain ⟨b2, rfl, _, h2⟩ := (H'.out.up hb).at_ hlt
      have c1 := h1.cell k hlt
      have c2 := h2.cell k hlt
      go_wp2_with fail
      go_region
      all_goals
        go_wp2_with fail
        go_roundw
        case rel => exact ⟨k + 1, by omega, by go_num, hb.drew⟩
        case measure => simp [intOf]; omega
    · obtain rfl : k = n := by omega
      go_wp2_with fail
      go_ret
      exact ⟨rfl, hb⟩


set_option maxHeartbeats 2000000 in
theorem toInts_any (A : Option Addr) (n c : Nat) (f : Nat → Int) (w : World) (h : RowI w A n f) (hn : n ≤ 1048576) :
    Calls Try.prog 47 #[.slice A n c] w fun e w' => ∃ g, e = .returned (.slice (some ⟨g, 0, none⟩) n n) ∧ w.heap.size ≤ g ∧ At w' g n f ∧ Below w.heap.size w w' := by
  obtain ⟨w1, hr, hZ, hb⟩ := make_ints w n hn
  have H := Lib.hid h; clear h
  obtain ⟨g, hg⟩ : ∃ g, g = w.heap.size := ⟨_, rfl⟩
  rw [← hg] at hr hZ
  have hgl : w.heap.size ≤ g := Nat.le_of_eq hg.symm
  clear hg
  go_enter Try.func47, Try.ntmps47
  go_wp2_with fail
  clear hr
  go_loopw [4] (fun iv wr => ∃ (i : Nat) (F : Nat → Int), i ≤ n ∧ iv = .int .i64 i ∧ At wr g n F ∧ Hid (∀ j, j < i → F j = f j) ∧ Below w.heap.size w wr) (fun iv _ => n - (intOf iv).toNat)
  case atStart => exact ⟨0, fun _ => 0, by omega, rfl, hZ, fun j hj => by omega, hb⟩
  case round =>
    clear hZ hb
    obtain ⟨i, F, hi, rfl, hA, hdone, hB⟩ := hrel
    by_cases hlt : i < n
    · have hit : decide ((i : Int) < (n : Int)) = true := decide_eq_true (by omega)
      obtain ⟨b, o, rfl, hbl, ci⟩ := (H.out.up hB).at_ hlt
      have fi := hA.free i
      have di := hA.cell i hlt
      go_wp2_with fail
      go_roundw
      case rel =>
        refine ⟨i + 1, put F i (f i), by omega, by go_num, hA.set hlt _, fun j hj => ?_, hB.setCell (p := ⟨g, i, none⟩) hgl _⟩
        by_cases hji : j = i
        · subst hji; exact put_same _ _ _
        · rw [put_other _ hji]; exact hdone.out j (by omega)
      case measure => simp [intOf]; omega
    · obtain rfl : i = n := by omega
      have hit : decide ((i : Int) < (i : Int)) = false := decide_eq_false (by omega)
      go_wp2_with fail
      go_ret
      exact ⟨g, rfl, hgl, hA.congr hdone.out, hB⟩


theorem results_tmp4 {fn : Func} {t u v x : Tmp} (h : fn.results = #[.tmp t, .tmp u, .tmp v, .tmp x]) (tmps : Array Value) (P : Program) (w : World) :
    (results fn tmps).run P w = .ok (.tuple #[tmps.getD t undef, tmps.getD u undef, tmps.getD v undef, tmps.getD x undef]) w := by
  simp [results, h]
/-- A turn that is played: from k places on. -/
def pt (d : Nat → Int) (bad h : Int) (p : Nat → Int) (n : Nat) : Nat → Int → Int × Int × Bool × Bool
  | 0, t => (t, (n : Int), false, true)
  | k + 1, t => if p (n - (k + 1)) < 0 ∨ 5 < p (n - (k + 1)) then (0, 0, false, false)
      else if d (p (n - (k + 1))).toNat = bad then (0, ((n - (k + 1) : Nat) : Int) + 1, true, true)
      else if h ≤ t + d (p (n - (k + 1))).toNat then (t + d (p (n - (k + 1))).toNat, ((n - (k + 1) : Nat) : Int) + 1, true, true)
      else pt d bad h p n k (t + d (p (n - (k + 1))).toNat)
theorem pt_end (d : Nat → Int) (bad h : Int) (p : Nat → Int) (n : Nat) (t : Int) : pt d bad h p n (n - n) t = (t, (n : Int), false, true) := by rw [Nat.sub_self]; rfl
theorem pt_step (d : Nat → Int) (bad h : Int) (p : Nat → Int) {n i : Nat} (t : Int) (hi : i < n) : pt d bad h p n (n - i) t = if p i < 0 ∨ 5 < p i then (0, 0, false, false)
      else if d (p i).toNat = bad then (0, (i : Int) + 1, true, true)
      else if h ≤ t + d (p i).toNat then (t + d (p i).toNat, (i : Int) + 1, true, true)
      else pt d bad h p n (n - (i + 1)) (t + d (p i).toNat) := by
  obtain ⟨k, hk⟩ : ∃ k, n - i = k + 1 := ⟨n - i - 1, by omega⟩
  rw [hk]
  have e : n - (k + 1) = i := by omega
  have e2 : n - (i + 1) = k := by omega
  show (if p (n - (k + 1)) < 0 ∨ 5 < p (n - (k + 1)) then _ else _) = _
  rw [e, e2]
def ptv (x : Int × Int × Bool × Bool) : Value := .tuple #[.int .i64 x.1, .int .i64 x.2.1, .bool x.2.2.1, .bool x.2.2.2]
def outP (d : Nat → Int) (bad h : Int) (p : Nat → Int) (n : Nat) : Int × Int × Bool × Bool := if okT d bad h then pt d bad h p n n 0 else (0, 0, false, false)

set_option maxHeartbeats 2000000 in
theorem faceAt_any (d : Nat → Int) (x : Int) (w : World) :
    Calls Try.prog 80 #[dv d, .int .i64 x] w fun e w' => e = .returned (.tuple #[.int .i64 (if x < 0 ∨ 5 < x then 0 else d x.toNat), .bool (!decide (x < 0 ∨ 5 < x))]) ∧ Below w.heap.size w w' := by
  unfold dv
  have hB := na (n0 w) (sixO d 22)
  have hD := At.new6 w d 22 rfl
  by_cases h0 : x < 0
  · have g1 : decide (x < 0) = true := decide_eq_true h0
    rw [if_pos (.inl h0), decide_eq_true (show x < 0 ∨ 5 < x from .inl h0)]
    go_enter Try.func80, Try.ntmps80
    go_wp2_with fail
    go_ret2
    exact ⟨rfl, hB⟩
  · have g1 : decide (x < 0) = false := decide_eq_false h0
    by_cases h5 : 5 < x
    · have g2 : decide (6 ≤ x) = true := decide_eq_true (by omega)
      rw [if_pos (.inr h5), decide_eq_true (show x < 0 ∨ 5 < x from .inr h5)]
      go_enter Try.func80, Try.ntmps80
      go_wp2_with fail
      go_ret2
      exact ⟨rfl, hB⟩
    · have g2 : decide (6 ≤ x) = false := decide_eq_false (by omega)
      rw [if_neg (by omega), decide_eq_false (show ¬ (x < 0 ∨ 5 < x) by omega)]
      obtain ⟨i, rfl⟩ : ∃ i : Nat, x = i := ⟨x.toNat, by omega⟩
      have ci := hD.cell i (by omega)
      rw [Int.toNat_natCast]
      go_enter Try.func80, Try.ntmps80
      go_wp2_with fail
      go_ret2
      exact ⟨rfl, hB⟩

set_option maxRecDepth 100000 in
set_option maxHeartbeats 8000000 in
theorem specPlay_any (d : Nat → Int) (bad h : Int) (g n c : Nat) (p : Nat → Int) (w : World) (hA : At w g n p) (hn : n ≤ 1048576) :
    Calls Try.prog 46 #[dv d, .int .i64 bad, .int .i64 h, .slice (some ⟨g, 0, none⟩) n c] w fun e w' => e = .returned (ptv (outP d bad h p n)) ∧ Below w.heap.size w w' := by
  have hc := fun w => l7Turn_any d bad h w
  unfold dv at hc
  have Hc := Lib.hid hc; clear hc
  unfold dv
  have hB := na (n0 w) (sixO d 22)
  have hD := At.new6 w d 22 rfl
  have hA0 := hA.past (sixO d 22)
  obtain ⟨e0, e1, e2, e3, e4, e5⟩ := hD.six
  unfold outP
  cases hok : okT d bad h
  · rw [hok] at Hc
    clear hok
    go_enter Try.func46, Try.ntmps46
    go_wp2_with fail
    refine (Hc.out _).mono ?_
    rintro e w1 ⟨rfl, hb1⟩
    clear e0 e1 e2 e3 e4 e5
    go_wp2_with fail
    try simp only [Exit.inBlock, Exit.then]
    refine bodyPost_ret (results_tmp4 rfl _ _ _) rfl ?_
    exact ⟨rfl, nx hB hb1⟩
  · rw [hok] at Hc
    obtain ⟨hr, ⟨_, _⟩, _, hh10⟩ := of_okT hok
    have Hd := Lib.hid (faces_of hr)
    clear hok hr
    rw [if_pos rfl]
    have hi := fun x w => l1In_any x 0 5 w
    have Hin := Lib.hid hi; clear hi
    obtain ⟨r, hr⟩ : ∃ r, r = pt d bad h p n n 0 := ⟨_, rfl⟩
    rw [← hr]
    have Hr : Hid (r = pt d bad h p n (n - 0) 0) := hr
    clear hr
    go_enter Try.func46, Try.ntmps46
    go_wp2_with fail
    refine (Hc.out _).mono ?_
    rintro e w1 ⟨rfl, hb1⟩
    have hB1 := nx hB hb1
    have hD1 := hD.up hb1
    have hA1 := hA0.up hb1
    clear e0 e1 e2 e3 e4 e5 hB hD hA0 hA hb1
    go_wp2_with fail
    go_loop [12, 13] (fun tv iv => ∃ (i : Nat) (t : Int), i ≤ n ∧ 0 ≤ t ∧ t ≤ 10 ∧ iv = .int .i64 i ∧ tv = .int .i64 t ∧ Hid (r = pt d bad h p n (n - i) t)) (fun _ iv => n - (intOf iv).toNat)
    case atStart => exact ⟨0, 0, by omega, by omega, by omega, rfl, rfl, Hr⟩
    case round =>
      obtain ⟨i, t, hi, ht0, ht1, rfl, rfl, hrr⟩ := hrel
      by_cases hlt : i < n
      · have hit : decide ((i : Int) < (n : Int)) = true := decide_eq_true (by omega)
        have hitN : decide (i < n) = true := decide_eq_true hlt
        have ci := hA1.cell i hlt
        have hs := hrr.out
        rw [pt_step d bad h p t hlt] at hs
        have Hs := Lib.hid hs
        clear hs
        have hin := Lib.hid (Hin.out (p i))
        by_cases hx : p i < 0 ∨ 5 < p i
        · have hs2 := Hs.out
          rw [if_pos hx] at hs2
          rw [decide_eq_false (show ¬ (0 ≤ p i ∧ p i ≤ 5) by omega)] at hin
          have HE := Lib.hid hs2
          clear hs2 Hs hrr hx
          generalize p i = x at *
          go_wp2_with fail
          refine (hin.out _).mono ?_
          rintro e w5 ⟨rfl, hw5⟩
          have hw5 := hw5.symm
          subst hw5
          go_wp2_with fail
          try simp only [Exit.inBlock, Exit.then]
          refine bodyPost_ret (results_tmp4 rfl _ _ _) rfl ?_
          exact ⟨by rw [HE.out]; rfl, hB1⟩
        · rw [decide_eq_true (show 0 ≤ p i ∧ p i ≤ 5 by omega)] at hin
          obtain ⟨x, hxe⟩ : ∃ x : Nat, p i = x := ⟨(p i).toNat, by omega⟩
          have hx6 : x < 6 := by omega
          have hs2 := Hs.out
          rw [if_neg hx, hxe, Int.toNat_natCast] at hs2
          rw [hxe] at hin ci
          obtain ⟨hdx, hf1, hf30⟩ := Hd.out x hx6
          have cx := hD1.cell x hx6
          have Hs2 := Lib.hid hs2
          clear hs2 Hs hrr hx hxe
          generalize d x = y at *
          have hy30 : 1 ≤ y ∧ y ≤ 30 := by omega
          by_cases hb : y = bad
          · have hbe : (y == bad) = true := by simp [hb]
            have hs3 := Hs2.out
            rw [if_pos hb] at hs3
            have HE := Lib.hid hs3
            clear hs3 Hs2 hb hdx
            go_wp2_with fail
            refine (hin.out _).mono ?_
            rintro e w5 ⟨rfl, hw5⟩
            have hw5 := hw5.symm
            subst hw5
            go_wp2_with fail
            try simp only [Exit.inBlock, Exit.then]
            refine bodyPost_ret (results_tmp4 rfl _ _ _) rfl ?_
            exact ⟨by rw [HE.out]; rfl, hB1⟩
          · have hbe : (y == bad) = false := by simp [hb]
            have hs3 := Hs2.out
            rw [if_neg hb] at hs3
            have Hs3 := Lib.hid hs3
            clear hs3 Hs2 hb hdx
            have hw : wrap64 (t + y) = t + y := by unfold wrap64; omega
            by_cases hge : h ≤ t + y
            · have hgd : decide (h ≤ t + y) = true := decide_eq_true hge
              have hs4 := Hs3.out
              rw [if_pos hge] at hs4
              have HE := Lib.hid hs4
              clear hs4 Hs3 hge
              go_wp2_with fail
              refine (hin.out _).mono ?_
              rintro e w5 ⟨rfl, hw5⟩
              have hw5 := hw5.symm
              subst hw5
              go_wp2_with fail
              try simp only [Exit.inBlock, Exit.then]
              refine bodyPost_ret (results_tmp4 rfl _ _ _) rfl ?_
              exact ⟨by rw [HE.out]; rfl, hB1⟩
            · have hgd : decide (h ≤ t + y) = false := decide_eq_false hge
              have hs4 := Hs3.out
              rw [if_neg hge] at hs4
              have Hs4 := Lib.hid hs4
              clear hs4 Hs3
              go_wp2_with fail
              refine (hin.out _).mono ?_
              rintro e w5 ⟨rfl, hw5⟩
              have hw5 := hw5.symm
              subst hw5
              go_wp2_with fail
              go_round
              case rel => exact ⟨i + 1, t + y, by omega, by omega, by omega, by go_num, rfl, Hs4⟩
              case measure => simp [intOf]; omega
      · obtain rfl : i = n := by omega
        have hit : decide ((i : Int) < (i : Int)) = false := decide_eq_false (by omega)
        have hs2 := hrr.out
        rw [pt_end] at hs2
        have HE := Lib.hid hs2
        clear hs2
        go_wp2_with fail
        try simp only [Exit.inBlock, Exit.then]
        refine bodyPost_ret (results_tmp4 rfl _ _ _) rfl ?_
        exact ⟨by rw [HE.out]; rfl, hB1⟩


end PlayW
end Go.Proofs.Ytcffglnfdnanhaa
