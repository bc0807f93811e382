/-
  The least best sets of all outcomes, by the specification.
-/
import Derived.Test.YtppaegibhikjnaaRows
import Derived.Test.YtppaegibhikjnaaVFacts
import Derived.Test.YtppaegibhikjnaaAgainM
import Derived.Test.YtppaegibhikjnaaPowW
import Derived.Test.YtppaegibhikjnaaOwnL
import Derived.Test.YtppaegibhikjnaaAll6
import Derived.Test.YtppaegibhikjnaaAll9
import Derived.Test.YtppaegibhikjnaaSumsS
import Derived.Test.YtppaegibhikjnaaRolledI
import Derived.Test.YtppaegibhikjnaaArr
import Derived.Test.YtppaegibhikjnaaDieW
import Derived.Test.YtppaegibhikjnaaFracW
import Derived.Test.YtppaegibhikjnaaSortW
import Derived.Test.YtppaegibhikjnaaDicesW
import Derived.Test.YtppaegibhikjnaaPoolW
import Derived.Test.YtppaegibhikjnaaGoalW
import Derived.Test.YtppaegibhikjnaaScoreM
import Derived.Test.YtppaegibhikjnaaScoreW
import Derived.Test.YtppaegibhikjnaaIntsW
import Derived.Test.YtppaegibhikjnaaRollN
import Derived.Test.YtppaegibhikjnaaPairA
import Derived.Test.YtppaegibhikjnaaGameW
import Derived.Test.YtppaegibhikjnaaScoreI
import Derived.Test.YtppaegibhikjnaaGridL
import Derived.Test.YtppaegibhikjnaaCutW
import Derived.Test.YtppaegibhikjnaaIntsW
import Derived.Test.YtppaegibhikjnaaRollN
import Derived.Test.YtppaegibhikjnaaValM
import Derived.Test.YtppaegibhikjnaaValsS
import Derived.Test.YtppaegibhikjnaaBestM
import Derived.Test.YtppaegibhikjnaaBestS
import Derived.Test.YtppaegibhikjnaaKeptM
import Derived.Test.YtppaegibhikjnaaOpenD
import Derived.WalkKit
import Derived.Deep.WholeRow
import Derived.Deep.AppendLies
import Derived.FnLit
import Derived.WalkLawsBesides
import Derived.WalkSpells
import Derived.ProofKit
import Derived.OpenShut
import Derived.Deep.RegionWith
import Derived.Deep.QuietTactic
import Derived.BigQuiet
namespace Go.Proofs.Ytppaegibhikjnaa
open Go.ChangeShapes Go.WideShapes Go.ChangeAt Go.RowKit
open Go.ChangeMaps (open_string shut_string)

namespace PlanS
open Dice Arr AgainM PowW OwnL All6 All9 SumsS RolledI FracW OpenD DieW SortW PoolW DicesW GoalW ScoreM ScoreW IntsW RollW PairA GameW ScoreI VFacts GridL CutW ValM ValsS BestM BestS KeptM


theorem make_somewhere (w : World) (n : Nat) (hn : n ≤ 1048576) : ∃ g w1, (Instr.makeSlice 28 (.int .i64 n) (.int .i64 n)).run Try.prog w = .ok (.slice (some ⟨g, 0, none⟩) n n) w1 ∧ w.heap.size ≤ g ∧ At w1 g n (fun _ => 0) ∧ Below w.heap.size w w1 := by
  obtain ⟨w1, h1, h2, h3⟩ := make_ints w n hn
  exact ⟨_, w1, h1, Nat.le_refl _, h2, h3⟩

set_option maxRecDepth 100000 in
set_option maxHeartbeats 16000000 in
theorem l6Plan_any (A : Option Addr) (n c r : Nat) (P : Nat → Nat → Int) (k b : Int) (w : World) (h : Row w A n P) (hg : gameOk n P k b r 1 = true) :
    Calls Try.prog 73 #[.slice A n c, v2 k b, .int .i64 r] w fun e w' => ∃ g c', e = .returned (.slice (some ⟨g, 0, none⟩) (all6 n) c') ∧ w.heap.size ≤ g ∧ At w' g (all6 n) (fun m => ((planF n P k b r m : Nat) : Int)) ∧ Below w.heap.size w w' := by
  obtain ⟨hm, hgo, hr1, hr2⟩ := of_game hg
  obtain ⟨h1, h3, hp⟩ := of_many hm
  have hk := goal_kinds hgo
  have hT : all6 n ≤ 216 := (pow_three h3).1
  obtain ⟨hsh, hM8, hM1⟩ := shl_two h3
  have Hsc := Lib.hid (fun w h => scores_any A n c P k b (r - 1) w h h3 hp hk (by omega))
  have Hsu := Lib.hid (fun s g c w (hs : s < 8) h => sumsV_any n P k b h3 hp (r - 1) (by omega) s hs g c w h)
  have Hnn := Lib.hid (fun m (hm : m < all6 n) s => worth_game hg hm s)
  have e1 : ((r : Int) - 1) = ((r - 1 : Nat) : Int) := by omega
  have hW : Hid (∀ s m, worth n (values n (sco n P k b) (r - 1)) m s = sums n s (values n (sco n P k b) (r - 1)) n m) := fun _ _ => rfl
  have hpl : Hid (∀ m, (AgainM.top (worth n (values n (sco n P k b) (r - 1)) m) (2 ^ n)).1 = planF n P k b r m) := fun _ => rfl
  clear hg hm hgo hp hk
  generalize planF n P k b r = pl at *
  generalize worth n (values n (sco n P k b) (r - 1)) = F at *
  generalize values n (sco n P k b) (r - 1) = V at *
  generalize 2 ^ n = M at *
  generalize all6 n = T at *
  have hP0 := At.newG k b w 25
  have hB := na (n0 w) (.cells #[.int .i64 k, .int .i64 b] 25)
  have H := Lib.hid (h.up hB); clear h
  have Hs0 : Hid (∀ g c w, At w g T V → Calls Try.prog 76 #[.int .i64 n, .slice (some ⟨g, 0, none⟩) T c, .int .i64 0] w fun e w' => ∃ g' c', e = .returned (.slice (some ⟨g', 0, none⟩) T c') ∧ w.heap.size ≤ g' ∧ At w' g' T (sums n 0 V n) ∧ Below w.heap.size w w') := fun g c w h => Hsu.out 0 g c w (by omega) h
  go_enter Try.func73, Try.ntmps73
  go_wp2_with fail
  refine (Hsc.out _ H.out).mono ?_
  rintro e w1 ⟨g, c1, rfl, hg, hA, hb1⟩
  have hB1 := (hB.trans (hb1.mono hB.size)).drew
  have hA1 := hA.drew
  obtain ⟨gz, w2, hr, hgz, hZ, hb2⟩ := make_somewhere w1.drew T (by omega)
  have hA2 := hA1.up hb2
  have hlg := hA1.lt
  have hsz1 := hB1.size
  have hgz2 : g < gz ∧ w.heap.size ≤ gz := by omega
  clear hgz
  clear hA hb1 hB hP0 e1
  go_wp2_with fail
  go_region_with (go_at_call 76; refine (Hs0.out _ _ _ (by first | exact hA1 | exact hA2)).mono ?_; rintro e w5 ⟨gb, cb, rfl, hgb, hS, hb5⟩; obtain ⟨gy, w6, hr6, hgy, hZ6, hb6⟩ := make_somewhere w5 T (by omega); have hgy2 : gb < gy := Nat.lt_of_lt_of_le hS.lt hgy)
  all_goals
    first
      | (have hV0 := (hA1.up hb5).up hb6
         have hY0 := hS.up hb6
         have hX0 := hZ6
         have hB0 := nx (nx hB1 hb5) hb6
         have hord : gb ≠ gy ∧ g ≠ gb ∧ g ≠ gy ∧ w.heap.size ≤ gb ∧ w.heap.size ≤ gy := by omega
         clear hr hr6 hgz2 hgy2 hZ
         generalize gy = go at *)
      | (have hV0 := hA2.up hb5
         have hY0 := hS
         have hX0 := hZ.up hb5
         have hB0 := nx (nx hB1 hb2) hb5
         have hs2 := hb2.size
         have hzl := hZ.lt
         have hord : gb ≠ gz ∧ g ≠ gb ∧ g ≠ gz ∧ w.heap.size ≤ gb ∧ w.heap.size ≤ gz := by omega
         clear hr hr6 hgz2 hgy2 hs2 hzl hZ6
         generalize gz = go at *)
    have htop : ∀ m, m < T → sums n 0 V n m = (AgainM.top (F m) 1).2 := fun m hm => by rw [top_one (Hnn.out m hm 0)]; exact (hW.out 0 m).symm
    have hfst : ∀ m, m < T → (0 : Int) = (((AgainM.top (F m) 1).1 : Nat) : Int) := fun m hm => by rw [top_one (Hnn.out m hm 0)]; rfl
    have hY1 := hY0.congr htop
    have hX1 := hX0.congr hfst
    clear hY0 hX0 htop hfst hb6 hb5 hS hgb hb2 hA2 hA1 hB1 Hs0 Hsc hlg hsz1
    obtain ⟨hn1, hn2, hn3, hw1, hw2⟩ := hord
    go_wp2_with fail
    go_loopw [10] (fun sv wx => ∃ s : Nat, 1 ≤ s ∧ s ≤ M ∧ sv = .int .i64 s ∧ At wx g T V ∧ At wx gb T (fun m => (AgainM.top (F m) s).2) ∧ At wx go T (fun m => (((AgainM.top (F m) s).1 : Nat) : Int)) ∧ Below w.heap.size w wx) (fun sv _ => M - (intOf sv).toNat)
    case atStart => exact ⟨1, by omega, by omega, rfl, hV0, hY1, hX1, hB0⟩
    case round =>
      clear hV0 hY1 hX1 hB0
      obtain ⟨s, hs1, hsM, rfl, hA, hY, hX, hB⟩ := hrel
      by_cases hsl : s < M
      · have hst : decide ((s : Int) < (M : Int)) = true := decide_eq_true (by omega)
        have Hss := Lib.hid (fun g c w h => Hsu.out s g c w (by omega) h)
        have Hws := Lib.hid (hW.out s)
        go_wp2_with fail
        refine (Hss.out _ _ _ hA).mono ?_
        rintro e w3 ⟨gs, cs, rfl, hgs, hS, hb3⟩
        have hA3 := hA.up hb3
        have hY3 := hY.up hb3
        have hX3 := hX.up hb3
        have hB3 := nx hB hb3
        have hb1 : gb < gs := Nat.lt_of_lt_of_le hY.lt hgs
        have hb2 : go < gs := Nat.lt_of_lt_of_le hX.lt hgs
        clear hA hY hX hB hb3 hgs
        go_wp2_with fail
        go_loopw [12] (fun mv wy => ∃ m : Nat, m ≤ T ∧ mv = .int .i64 m ∧ At wy g T V ∧ At wy gb T (fun x => if x < m then (AgainM.top (F x) (s + 1)).2 else (AgainM.top (F x) s).2) ∧ At wy go T (fun x => (((if x < m then (AgainM.top (F x) (s + 1)).1 else (AgainM.top (F x) s).1) : Nat) : Int)) ∧ At wy gs T (sums n s V n) ∧ Below w.heap.size w wy) (fun mv _ => T - (intOf mv).toNat)
        case atStart => exact ⟨0, by omega, rfl, hA3, hY3.congr fun x hx => by rw [if_neg (by omega)], hX3.congr fun x hx => by rw [if_neg (by omega)], hS, hB3⟩
        case round =>
          clear hA3 hY3 hX3 hS hB3
          obtain ⟨m, hm, rfl, hA, hY, hX, hS, hB⟩ := hrel
          by_cases hml : m < T
          · have hmt : decide ((m : Int) < (T : Int)) = true := decide_eq_true (by omega)
            have c1 := hY.cell m hml
            rw [if_neg (by omega)] at c1
            have c2 := hS.cell m hml
            have c3 := hX.cell m hml
            have z1 := hY.free m
            have z3 := hX.free m
            have hFm := Hws.out m
            have hstep : AgainM.top (F m) (s + 1) = if (AgainM.top (F m) s).2 < F m s then (s, F m s) else AgainM.top (F m) s := rfl
            rw [hFm] at hstep
            by_cases hgt : (AgainM.top (F m) s).2 < sums n s V n m
            · rw [if_pos hgt] at hstep
              have hd : decide ((AgainM.top (F m) s).2 < sums n s V n m) = true := decide_eq_true hgt
              have hY' : Hid (∀ x, x < T → put (fun x => if x < m then (AgainM.top (F x) (s + 1)).2 else (AgainM.top (F x) s).2) m (sums n s V n m) x = if x < m + 1 then (AgainM.top (F x) (s + 1)).2 else (AgainM.top (F x) s).2) := fun x _ => by
                by_cases hxm : x = m
                · subst hxm
                  rw [put_same, if_pos (by omega), hstep]
                · rw [put_other _ hxm]
                  by_cases h2 : x < m
                  · rw [if_pos h2, if_pos (by omega)]
                  · rw [if_neg h2, if_neg (by omega)]
              have hX' : Hid (∀ x, x < T → put (fun x => (((if x < m then (AgainM.top (F x) (s + 1)).1 else (AgainM.top (F x) s).1) : Nat) : Int)) m (s : Int) x = (((if x < m + 1 then (AgainM.top (F x) (s + 1)).1 else (AgainM.top (F x) s).1) : Nat) : Int)) := fun x _ => by
                by_cases hxm : x = m
                · subst hxm
                  rw [put_same, if_pos (by omega), hstep]
                · rw [put_other _ hxm]
                  by_cases h2 : x < m
                  · rw [if_pos h2, if_pos (by omega)]
                  · rw [if_neg h2, if_neg (by omega)]
              have HA := Lib.hid hA; clear hA
              have HY := Lib.hid hY; clear hY
              have HX := Lib.hid hX; clear hX
              have HS := Lib.hid hS; clear hS
              have HB := Lib.hid hB; clear hB
              clear hstep hFm hgt
              generalize (AgainM.top (F m) s).2 = tp at *
              generalize hq : sums n s V n m = q at *
              have Hq := Lib.hid hq; clear hq
              go_wp2_with fail
              go_region
              all_goals
                have hY5 := HY.out.drew.set hml q
                have hX5 := (HX.out.drew.other (b := go) (p := gb) (by omega) m (.int .i64 q)).set hml (s : Int)
                have hA5 := (HA.out.drew.other (b := g) (p := gb) (by omega) m (.int .i64 q)).other (b := g) (p := go) (by omega) m (.int .i64 (s : Int))
                have hS5 := (HS.out.drew.other (b := gs) (p := gb) (by omega) m (.int .i64 q)).other (b := gs) (p := go) (by omega) m (.int .i64 (s : Int))
                have hY6 := hY5.other (b := gb) (p := go) hn1 m (.int .i64 (s : Int))
                have hB5 := (HB.out.drew.setCell (p := ⟨gb, m, none⟩) hw1 (.int .i64 q)).setCell (p := ⟨go, m, none⟩) hw2 (.int .i64 (s : Int))
                have f3 := ((HX.out.drew.other (b := go) (p := gb) (by omega) m (.int .i64 q))).cell m hml
                have f4 := ((HX.out.drew.other (b := go) (p := gb) (by omega) m (.int .i64 q))).free m
                have HY6 := Lib.hid hY6; clear hY6
                have HX5 := Lib.hid hX5; clear hX5
                have HA5 := Lib.hid hA5; clear hA5
                have HS5 := Lib.hid hS5; clear hS5
                have HB5 := Lib.hid hB5; clear hB5
                clear hY5
                go_wp2_with fail
                go_roundw
                case rel => exact ⟨m + 1, by omega, by go_num, HA5.out, HY6.out.congr hY'.out, HX5.out.congr hX'.out, HS5.out, HB5.out⟩
                case measure => simp [intOf]; omega
            · rw [if_neg hgt] at hstep
              have hd : decide ((AgainM.top (F m) s).2 < sums n s V n m) = false := decide_eq_false hgt
              have hY' : Hid (∀ x, x < T → (if x < m then (AgainM.top (F x) (s + 1)).2 else (AgainM.top (F x) s).2) = if x < m + 1 then (AgainM.top (F x) (s + 1)).2 else (AgainM.top (F x) s).2) := fun x _ => by
                by_cases h2 : x < m
                · rw [if_pos h2, if_pos (by omega)]
                · rw [if_neg h2]
                  by_cases hxm : x = m
                  · subst hxm
                    rw [if_pos (by omega), hstep]
                  · rw [if_neg (by omega)]
              have hX' : Hid (∀ x, x < T → (((if x < m then (AgainM.top (F x) (s + 1)).1 else (AgainM.top (F x) s).1) : Nat) : Int) = (((if x < m + 1 then (AgainM.top (F x) (s + 1)).1 else (AgainM.top (F x) s).1) : Nat) : Int)) := fun x _ => by
                by_cases h2 : x < m
                · rw [if_pos h2, if_pos (by omega)]
                · rw [if_neg h2]
                  by_cases hxm : x = m
                  · subst hxm
                    rw [if_pos (by omega), hstep]
                  · rw [if_neg (by omega)]
              clear hstep hFm hgt
              have HY := Lib.hid hY; clear hY
              have HX := Lib.hid hX; clear hX
              generalize (AgainM.top (F m) s).2 = tp at *
              generalize hq : sums n s V n m = q at *
              have Hq := Lib.hid hq; clear hq
              go_wp2_with fail
              go_region
              all_goals
                go_wp2_with fail
                go_roundw
                case rel => exact ⟨m + 1, by omega, by go_num, hA.drew, (HY.out.congr hY'.out).drew, (HX.out.congr hX'.out).drew, hS.drew, hB.drew⟩
                case measure => simp [intOf]; omega
          · obtain rfl : m = T := by omega
            have hmt : decide ((m : Int) < (m : Int)) = false := decide_eq_false (by omega)
            go_wp2_with fail
            go_roundw
            case rel => exact ⟨s + 1, by omega, by omega, by go_num, hA, hY.congr fun x hx => by rw [if_pos hx], hX.congr fun x hx => by rw [if_pos hx], hB⟩
            case measure => simp [intOf]; omega
      · obtain rfl : s = M := by omega
        have hst : decide ((s : Int) < (s : Int)) = false := decide_eq_false (by omega)
        go_wp2_with fail
        go_ret
        exact ⟨go, _, rfl, hw2, hX.congr fun x _ => by rw [hpl.out], hB⟩


end PlanS
end Go.Proofs.Ytppaegibhikjnaa
