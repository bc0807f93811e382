/-
  The values of all outcomes, by the specification.
-/
import Derived.Test.YtppaegibhikjnaaRows
import Derived.Test.YtppaegibhikjnaaVFacts
import Derived.Test.YtppaegibhikjnaaAgainM
import Derived.Test.YtppaegibhikjnaaPowW
import Derived.Test.YtppaegibhikjnaaOwnL
import Derived.Test.YtppaegibhikjnaaAll6
import Derived.Test.YtppaegibhikjnaaAll9
import Derived.Test.YtppaegibhikjnaaSumsS
import Derived.Test.YtppaegibhikjnaaArr
import Derived.Test.YtppaegibhikjnaaDieW
import Derived.Test.YtppaegibhikjnaaFracW
import Derived.Test.YtppaegibhikjnaaSortW
import Derived.Test.YtppaegibhikjnaaDicesW
import Derived.Test.YtppaegibhikjnaaPoolW
import Derived.Test.YtppaegibhikjnaaGoalW
import Derived.Test.YtppaegibhikjnaaScoreM
import Derived.Test.YtppaegibhikjnaaScoreW
import Derived.Test.YtppaegibhikjnaaIntsW
import Derived.Test.YtppaegibhikjnaaRollN
import Derived.Test.YtppaegibhikjnaaPairA
import Derived.Test.YtppaegibhikjnaaGameW
import Derived.Test.YtppaegibhikjnaaScoreI
import Derived.Test.YtppaegibhikjnaaOpenD
import Derived.WalkKit
import Derived.Deep.WholeRow
import Derived.Deep.RegionHeld3
import Derived.Deep.AppendLies
import Derived.WalkLawsBesides
import Derived.WalkSpells
import Derived.ProofKit
import Derived.OpenShut
import Derived.Deep.RegionWith
import Derived.Deep.QuietTactic
import Derived.BigQuiet
namespace Go.Proofs.Ytppaegibhikjnaa
open Go.ChangeShapes Go.WideShapes Go.ChangeAt Go.RowKit
open Go.ChangeMaps (open_string shut_string)

namespace ValsS
open Dice Arr AgainM PowW OwnL All6 All9 SumsS FracW OpenD DieW SortW PoolW DicesW GoalW ScoreM ScoreW IntsW RollW PairA GameW ScoreI VFacts


theorem sumsV_any (n : Nat) (P : Nat → Nat → Int) (k b : Int) (hn : n ≤ 3) (hp : pooled P n) (i : Nat) (hi : i ≤ 2) (s : Nat) (hs : s < 8) (g c : Nat) (w : World) (h : At w g (all6 n) (values n (sco n P k b) i)) :
    Calls Try.prog 76 #[.int .i64 n, .slice (some ⟨g, 0, none⟩) (all6 n) c, .int .i64 s] w fun e w' => ∃ g' c', e = .returned (.slice (some ⟨g', 0, none⟩) (all6 n) c') ∧ w.heap.size ≤ g' ∧ At w' g' (all6 n) (sums n s (values n (sco n P k b) i) n) ∧ Below w.heap.size w w' := by
  have v := within_vals hn hp k b hi
  generalize 6 ^ (n * i) * 90 = B at v
  exact l6Sums_any n s (all6 n) B g c _ w hn hs rfl v.1 v.2 h
theorem nonneg_vals (n : Nat) (P : Nat → Nat → Int) (k b : Int) (hn : n ≤ 3) (hp : pooled P n) (i : Nat) (hi : i ≤ 2) (m : Nat) (hm : m < all6 n) (s : Nat) : 0 ≤ worth n (values n (sco n P k b) i) m s :=
  (within_worth (within_vals hn hp k b hi).1 hm s).1

set_option maxRecDepth 100000 in
set_option maxHeartbeats 16000000 in
theorem scores_any (A : Option Addr) (n c : Nat) (P : Nat → Nat → Int) (k b : Int) (r : Nat) (w : World) (h : Row w A n P) (hn : n ≤ 3) (hp : pooled P n) (hk : k = 1 ∨ k = 2 ∨ k = 3 ∨ k = 4 ∨ k = 5) (hr : r ≤ 2) :
    Calls Try.prog 62 #[.slice A n c, v2 k b, .int .i64 r] w fun e w' => ∃ g c', e = .returned (.slice (some ⟨g, 0, none⟩) (all6 n) c') ∧ w.heap.size ≤ g ∧ At w' g (all6 n) (values n (sco n P k b) r) ∧ Below w.heap.size w w' := by
  have hP0 := At.newG k b w 25
  have H := Lib.hid h; clear h
  have h6 := (pow_three hn).1
  have Hrl := Lib.hid (fun i w h hi => l2Roll_any A n c i P w h (by omega) hi)
  have Ho := Lib.hid (fun w => l2All_any n w (by omega))
  have Hsc := Lib.hid (fun N g c w h => l6Score_any k b (rollF P N n) g n c w hn hk (face_ok hp N) h)
  have Hsm := Lib.hid (fun i s g c w (hi : i ≤ 2) (hs : s < 8) h => sumsV_any n P k b hn hp i hi s hs g c w h)
  have Hnn := Lib.hid (fun i m s (hi : i ≤ 2) hm => nonneg_vals n P k b hn hp i hi m hm s)
  have hT : all6 n ≤ 216 := h6
  obtain ⟨i0, hi, hz0, hz1, hz2⟩ := info_parts OwnL.info_int
  have Hi := Lib.hid (And.intro hi (And.intro hz0 (And.intro hz1 hz2)))
  clear hi hz0 hz1 hz2 h6
  generalize all6 n = T at *
  have hB0 := na (na (n0 w) (.cells #[.int .i64 k, .int .i64 b] 25)) (.cells #[] 3)
  have hO0 : ((w.alloc (.cells #[.int .i64 k, .int .i64 b] 25)).alloc (.cells #[] 3)).ownsRow (w.heap.size + 1) 3 1 (.slice (some ⟨w.heap.size + 1, 0, none⟩) 0 0) 0 [] := by
    have := World.ownsRow_made (w.alloc (.cells #[.int .i64 k, .int .i64 b] 25)) (e := 3) (size := 1) #[] 0 (Nat.le_refl _) (by decide) rfl
    rw [size_alloc] at this
    exact this
  have hP1 := hP0.past (.cells #[] 3)
  go_enter Try.func62, Try.ntmps62
  go_wp2_with fail
  generalize (w.alloc (.cells #[.int .i64 k, .int .i64 b] 25)).alloc (.cells #[] 3) = W at *
  clear hP0
  go_loopw [7, 8] (fun vv iv wr => ∃ N : Nat, N ≤ T ∧ iv = .int .i64 N ∧ wr.ownsRow (w.heap.size + 1) 3 1 vv N (vals N (sco n P k b)) ∧ vv ≠ .slice none 0 0 ∧ At wr w.heap.size 2 (fr k b) ∧ Below w.heap.size w wr) (fun _ iv _ => T - (intOf iv).toNat)
  case atStart => exact ⟨0, by omega, rfl, hO0, by simp, hP1, hB0⟩
  case round =>
    clear hO0 hP1 hB0
    obtain ⟨N, hN, rfl, hO, hne, hP, hB⟩ := hrel
    by_cases hlt : N < T
    · have hit : decide ((N : Int) < (T : Int)) = true := decide_eq_true (by omega)
      have Hri := Lib.hid (fun w h => Hrl.out N w h (by omega))
      have Hsi := Lib.hid (fun g c w h => Hsc.out N g c w h)
      have q0 := hP.drew.cell 0 (by omega)
      have q1 := hP.drew.cell 1 (by omega)
      rw [show fr k b 0 = k from rfl] at q0
      rw [show fr k b 1 = b from rfl] at q1
      have hRw : Hid (Row wr.drew A n P) := H.out.below (Nat.le_refl _) hB.drew
      have HB := Lib.hid hB.drew; clear hB
      have HP := Lib.hid hP.drew; clear hP
      have HO := Lib.hid hO.drew; clear hO
      go_wp2_with fail
      refine (Ho.out _).mono ?_
      rintro e w5 ⟨rfl, hw5⟩
      have hw5 := hw5.symm
      subst hw5
      go_wp2_with fail
      go_region_held3 (fun w' => w'.cell? ⟨w.heap.size, 0, none⟩ = some (.int .i64 k) ∧ w'.cell? ⟨w.heap.size, 1, none⟩ = some (.int .i64 b)) (go_keep) (first | (go_at_call 87; refine (Hri.out _ hRw.out).mono ?_; rintro e w6 ⟨g6, rfl, hg6, hA6, hb6⟩; have q2 := (HP.out.up hb6).cell 0 (by omega); have q3 := (HP.out.up hb6).cell 1 (by omega); rw [show fr k b 0 = k from rfl] at q2; rw [show fr k b 1 = b from rfl] at q3) | (go_at_call 55; refine (Hsi.out _ _ _ hA6).mono ?_; rintro e w7 ⟨rfl, hb7⟩; have q4 := ((HP.out.up hb6).up hb7).cell 0 (by omega); have q5 := ((HP.out.up hb6).up hb7).cell 1 (by omega); rw [show fr k b 0 = k from rfl] at q4; rw [show fr k b 1 = b from rfl] at q5) | (refine step_append_lies _ (by rfl) _ _ 28 (by rfl) (w.heap.size + 1) 3 i0 (.int .i64 0) 1 8 Try.underlying28 Hi.out.1 Hi.out.2.1 Hi.out.2.2.1 Hi.out.2.2.2 rfl (by decide) _ N (vals N (sco n P k b)) (by rfl) ((own_up (own_up HO.out hb6) hb7).alloc _) ⟨w7.heap.size, 0, none⟩ 1 1 [.int .i64 (scoreV k b (rollF P N n) n)] (by rfl) rfl (news_one (cell_one _ _ _)) (by intro u hu; simp at hu; subst hu; rfl) (by omega) (by unfold maxLen; omega) (by omega) (by have := HB.out.size; have := hb6.size; have := hb7.size; simp; omega) (w7.heap.size + 1) (by simp) ?_; intro g9 c9 w9 hO9 hg9 hat9 hlt9; have hP9 := At.keptO (((HP.out.up hb6).up hb7).past _) hg9 (own_not HO.out (Nat.lt_succ_self _)); have q6 := hP9.cell 0 (by omega); have q7 := hP9.cell 1 (by omega); rw [show fr k b 0 = k from rfl] at q6; rw [show fr k b 1 = b from rfl] at q7))
      have hB7 := nx (nx HB.out hb6) hb7
      have hB8 := na hB7 (.cells #[.int .i64 (scoreV k b (rollF P N n) n)] 3)
      have hB9 := hB8.grown hg9 (by have := hB8.size; omega) (fun k e => by have := (HO.out.lt k e).1; omega)
      rw [show (.int .i64 (scoreV k b (rollF P N n) n) : Value) = .int .i64 (sco n P k b N) from rfl, vals_snoc] at hO9
      clear q0 q1 q2 q3 q4 q5 q6 q7 hB7 hB8 hg9 hat9 hlt9 hb6 hb7 hA6 hg6
      go_wp2_with fail
      go_roundw
      case rel => exact ⟨N + 1, by omega, by go_num, hO9, by simp, hP9, hB9⟩
      case measure => simp [intOf]; omega
    · obtain rfl : N = T := by omega
      have hit : decide ((N : Int) < (N : Int)) = false := decide_eq_false (by omega)
      obtain ⟨g0, c0, rfl, hg0, _⟩ := own_form hO hne
      have hA0 := At.of_own hO
      have hg0' : w.heap.size ≤ g0 := by omega
      clear hO hne hP hlt Hrl Hsc Hi
      go_wp2_with fail
      refine (Ho.out _).mono ?_
      rintro e w5 ⟨rfl, hw5⟩
      have hw5 := hw5.symm
      subst hw5
      go_wp2_with fail
      clear Ho
      have Hval : Hid (∀ i, values n (sco n P k b) (i + 1) = best n (values n (sco n P k b) i)) := fun i => rfl
      have hV0 : At wr g0 N (values n (sco n P k b) 0) := hA0
      obtain ⟨M, hM⟩ : ∃ M, M = 2 ^ n := ⟨_, rfl⟩
      obtain ⟨hsh, hM8, hM1⟩ := shl_two hn
      rw [← hM] at hsh hM8 hM1
      have HM := Lib.hid hM; clear hM
      generalize hVs : values n (sco n P k b) = Vs at *
      have HVs := Lib.hid hVs; clear hVs
      clear hA0 hp hk
      go_loopw [7, 9] (fun vv iv wr => ∃ i g c : Nat, i ≤ r ∧ iv = .int .i64 i ∧ vv = .slice (some ⟨g, 0, none⟩) N c ∧ w.heap.size ≤ g ∧ At wr g N (Vs i) ∧ Below w.heap.size w wr) (fun _ iv _ => r - (intOf iv).toNat)
      case atStart => exact ⟨0, g0, c0, by omega, rfl, rfl, hg0', hV0, hB⟩
      case round =>
        clear hV0 hB
        obtain ⟨i, g, c1, hi, rfl, rfl, hg, hA, hB⟩ := hrel
        by_cases hlt : i < r
        · have hit2 : decide ((i : Int) < (r : Int)) = true := decide_eq_true (by omega)
          have Hs := Lib.hid (fun s hs g c w h => Hsm.out i s g c w (by omega) hs h)
          have Hv := Lib.hid (Hval.out i)
          have hnn := fun m hm s => Hnn.out i m s (by omega) hm
          generalize Vs i = V at *
          have Hs0 : Hid (∀ g c w, At w g N V → Calls Try.prog 76 #[.int .i64 n, .slice (some ⟨g, 0, none⟩) N c, .int .i64 0] w fun e w' => ∃ g' c', e = .returned (.slice (some ⟨g', 0, none⟩) N c') ∧ w.heap.size ≤ g' ∧ At w' g' N (sums n 0 V n) ∧ Below w.heap.size w w') := Hs.out 0 (by omega)
          go_wp2_with fail
          refine (Hs0.out _ _ _ hA).mono ?_
          rintro e w2 ⟨gb, cb, rfl, hgb, hAb, hb2⟩
          have hA2 := hA.up hb2
          have hB2 := nx hB hb2
          have hgg : g < gb := Nat.lt_of_lt_of_le hA.lt hgb
          have hgw : w.heap.size ≤ gb := Nat.le_trans hB.size hgb
          have hAb1 : At w2 gb N (fun m => (top (worth n V m) 1).2) := hAb.congr fun m hm => by rw [top_one (hnn m hm 0)]; rfl
          clear hA hB hb2 hgb hAb Hs0
          go_wp2_with fail
          go_loopw [11] (fun sv wx => ∃ s : Nat, 1 ≤ s ∧ s ≤ M ∧ sv = .int .i64 s ∧ At wx g N V ∧ At wx gb N (fun m => (top (worth n V m) s).2) ∧ Below w.heap.size w wx) (fun sv _ => M - (intOf sv).toNat)
          case atStart => exact ⟨1, by omega, by omega, rfl, hA2, hAb1, hB2⟩
          case round =>
            clear hA2 hAb1 hB2
            obtain ⟨s, hs1, hsM, rfl, hA, hAb, hB⟩ := hrel
            by_cases hsl : s < M
            · have hst : decide ((s : Int) < (M : Int)) = true := decide_eq_true (by omega)
              have Hss := Lib.hid (Hs.out s (by omega))
              go_wp2_with fail
              refine (Hss.out _ _ _ hA).mono ?_
              rintro e w3 ⟨gs, cs, rfl, hgs, hAs, hb3⟩
              have hA3 := hA.up hb3
              have hAb3 := hAb.up hb3
              have hB3 := nx hB hb3
              have hbs : gb < gs := Nat.lt_of_lt_of_le hAb.lt hgs
              clear hA hAb hB hb3 hgs
              go_wp2_with fail
              go_loopw [13] (fun mv wy => ∃ m : Nat, m ≤ N ∧ mv = .int .i64 m ∧ At wy g N V ∧ At wy gb N (fun x => if x < m then (top (worth n V x) (s + 1)).2 else (top (worth n V x) s).2) ∧ At wy gs N (sums n s V n) ∧ Below w.heap.size w wy) (fun mv _ => N - (intOf mv).toNat)
              case atStart => exact ⟨0, by omega, rfl, hA3, hAb3.congr fun x hx => by rw [if_neg (by omega)], hAs, hB3⟩
              case round =>
                clear hA3 hAb3 hAs hB3
                obtain ⟨m, hm, rfl, hA, hAb, hAs, hB⟩ := hrel
                by_cases hml : m < N
                · have hmt : decide ((m : Int) < (N : Int)) = true := decide_eq_true (by omega)
                  have c1 := hAb.drew.cell m hml
                  rw [if_neg (by omega)] at c1
                  have c2 := hAs.drew.cell m hml
                  have z1 := hAb.drew.free m
                  have hm0 : (0 : Int) ≤ (m : Int) := by omega
                  have hm1 : (m : Int) < (N : Int) := by omega
                  have hmx := top_max (worth n V m) s
                  rw [show worth n V m s = sums n s V n m from rfl] at hmx
                  have Hm := Lib.hid (fun w => most_any (top (worth n V m) s).2 (sums n s V n m) w)
                  rw [← hmx] at Hm
                  have hnew : Hid (∀ x, x < N → put (fun x => if x < m then (top (worth n V x) (s + 1)).2 else (top (worth n V x) s).2) m (top (worth n V m) (s + 1)).2 x = if x < m + 1 then (top (worth n V x) (s + 1)).2 else (top (worth n V x) s).2) := fun x _ => by
                    by_cases hxm : x = m
                    · subst hxm
                      rw [put_same, if_pos (by omega)]
                    · rw [put_other _ hxm]
                      by_cases h2 : x < m
                      · rw [if_pos h2, if_pos (by omega)]
                      · rw [if_neg h2, if_neg (by omega)]
                  have hset := hAb.drew.set hml (top (worth n V m) (s + 1)).2
                  have hAo := hA.drew.other (b := g) (p := gb) (by omega) m (.int .i64 (top (worth n V m) (s + 1)).2)
                  have hSo := hAs.drew.other (b := gs) (p := gb) (by omega) m (.int .i64 (top (worth n V m) (s + 1)).2)
                  have hBo := hB.drew.setCell (p := ⟨gb, m, none⟩) hgw (.int .i64 (top (worth n V m) (s + 1)).2)
                  have hset2 := hset.congr hnew.out
                  clear hset hmx hA hAb hAs hB
                  have HAo := Lib.hid hAo; clear hAo
                  have HSo := Lib.hid hSo; clear hSo
                  have HBo := Lib.hid hBo; clear hBo
                  have Hset := Lib.hid hset2; clear hset2
                  generalize (top (worth n V m) s).2 = a at *
                  generalize (top (worth n V m) (s + 1)).2 = y at *
                  generalize sums n s V n m = q at *
                  go_wp2_with fail
                  go_region_with (go_at_call 89; refine (Hm.out _).mono ?_; rintro e w6 ⟨rfl, hw6⟩; have hw6 := hw6.symm; subst hw6)
                  all_goals
                    go_wp2_with fail
                    go_roundw
                    case rel => exact ⟨m + 1, by omega, by go_num, HAo.out, Hset.out, HSo.out, HBo.out⟩
                    case measure => simp [intOf]; omega
                · obtain rfl : m = N := by omega
                  have hmt : decide ((m : Int) < (m : Int)) = false := decide_eq_false (by omega)
                  go_wp2_with fail
                  go_roundw
                  case rel => exact ⟨s + 1, by omega, by omega, by go_num, hA, hAb.congr fun x hx => by rw [if_pos hx], hB⟩
                  case measure => simp [intOf]; omega
            · obtain rfl : s = M := by omega
              have hst : decide ((s : Int) < (s : Int)) = false := decide_eq_false (by omega)
              go_wp2_with fail
              go_roundw
              case rel => exact ⟨i + 1, gb, cb, by omega, by go_num, rfl, hgw, hAb.congr fun x hx => by rw [Hv.out, HM.out]; rfl, hB⟩
              case measure => simp [intOf]; omega
        · obtain rfl : i = r := by omega
          have hit2 : decide ((i : Int) < (i : Int)) = false := decide_eq_false (by omega)
          go_wp2_with fail
          go_ret
          exact ⟨g, c1, rfl, hg, by rw [HVs.out]; exact hA, hB⟩


end ValsS
end Go.Proofs.Ytppaegibhikjnaa
