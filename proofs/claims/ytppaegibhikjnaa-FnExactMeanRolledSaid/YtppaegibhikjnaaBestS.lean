/-
  The best sets, by the specification.
-/
import Derived.Test.YtppaegibhikjnaaRows
import Derived.Test.YtppaegibhikjnaaVFacts
import Derived.Test.YtppaegibhikjnaaAgainM
import Derived.Test.YtppaegibhikjnaaPowW
import Derived.Test.YtppaegibhikjnaaOwnL
import Derived.Test.YtppaegibhikjnaaAll6
import Derived.Test.YtppaegibhikjnaaAll9
import Derived.Test.YtppaegibhikjnaaSumsS
import Derived.Test.YtppaegibhikjnaaRolledI
import Derived.Test.YtppaegibhikjnaaArr
import Derived.Test.YtppaegibhikjnaaDieW
import Derived.Test.YtppaegibhikjnaaFracW
import Derived.Test.YtppaegibhikjnaaSortW
import Derived.Test.YtppaegibhikjnaaDicesW
import Derived.Test.YtppaegibhikjnaaPoolW
import Derived.Test.YtppaegibhikjnaaGoalW
import Derived.Test.YtppaegibhikjnaaScoreM
import Derived.Test.YtppaegibhikjnaaScoreW
import Derived.Test.YtppaegibhikjnaaIntsW
import Derived.Test.YtppaegibhikjnaaRollN
import Derived.Test.YtppaegibhikjnaaPairA
import Derived.Test.YtppaegibhikjnaaGameW
import Derived.Test.YtppaegibhikjnaaScoreI
import Derived.Test.YtppaegibhikjnaaGridL
import Derived.Test.YtppaegibhikjnaaCutW
import Derived.Test.YtppaegibhikjnaaIntsW
import Derived.Test.YtppaegibhikjnaaRollN
import Derived.Test.YtppaegibhikjnaaValM
import Derived.Test.YtppaegibhikjnaaBestM
import Derived.Test.YtppaegibhikjnaaValsS
import Derived.Test.YtppaegibhikjnaaOpenD
import Derived.WalkKit
import Derived.Deep.WholeRow
import Derived.Deep.AppendLies
import Derived.FnLit
import Derived.WalkLawsBesides
import Derived.WalkSpells
import Derived.ProofKit
import Derived.OpenShut
import Derived.Deep.RegionWith
import Derived.Deep.QuietTactic
import Derived.BigQuiet
namespace Go.Proofs.Ytppaegibhikjnaa
open Go.ChangeShapes Go.WideShapes Go.ChangeAt Go.RowKit
open Go.ChangeMaps (open_string shut_string)

namespace BestS
open Dice Arr AgainM PowW OwnL All6 All9 SumsS RolledI FracW OpenD DieW SortW PoolW DicesW GoalW ScoreM ScoreW IntsW RollW PairA GameW ScoreI VFacts GridL CutW ValM BestM ValsS


theorem game_one (n : Nat) (P : Nat → Nat → Int) (k b r : Int) : gameOk n P k b r 1 = (gameOk n P k b r 0 && decide (1 ≤ r)) := by
  unfold gameOk
  cases many 3 n P
  · rfl
  · cases goalOk k b
    · rfl
    · simp only [Bool.true_and]
      rw [Bool.eq_iff_iff]
      simp
      omega
theorem game_zero {n : Nat} {P : Nat → Nat → Int} {k b r : Int} (h : gameOk n P k b r 1 = true) : gameOk n P k b r 0 = true ∧ 1 ≤ r := by
  rw [game_one, Bool.and_eq_true] at h
  exact ⟨h.1, of_decide_eq_true h.2⟩

set_option maxRecDepth 100000 in
set_option maxHeartbeats 16000000 in
theorem l6Best_any (A : Option Addr) (n c N r : Nat) (P : Nat → Nat → Int) (k b : Int) (w : World) (h : Row w A n P) (hok : okVal n P k b N r 1 = true) :
    Calls Try.prog 72 #[.slice A n c, v2 k b, .int .i64 N, .int .i64 r] w fun e w' => ∃ v B, e = .returned v ∧ w.heap.size ≤ B ∧ v ≠ .slice none 0 0 ∧ w'.ownsRow B 3 1 v (slist (worth n (values n (sco n P k b) (r - 1)) N) (2 ^ n)).length (nv (slist (worth n (values n (sco n P k b) (r - 1)) N) (2 ^ n))) ∧ Below w.heap.size w w' := by
  obtain ⟨hg, hN0, hN⟩ := of_val hok
  obtain ⟨hm, hgo, hr1, hr2⟩ := of_game hg
  obtain ⟨h1, h3, hp⟩ := of_many hm
  have hk := goal_kinds hgo
  have hT : all6 n ≤ 216 := (pow_three h3).1
  obtain ⟨hsh, hM8, hM1⟩ := shl_two h3
  have Hsc := Lib.hid (fun w h => scores_any A n c P k b (r - 1) w h h3 hp hk (by omega))
  have Hsu := Lib.hid (fun s g c w (hs : s < 8) h => sumsV_any n P k b h3 hp (r - 1) (by omega) s hs g c w h)
  have Hnn := Lib.hid (fun s => nonneg_vals n P k b h3 hp (r - 1) (by omega) N (by omega) s)
  have e1 : ((r : Int) - 1) = ((r - 1 : Nat) : Int) := by omega
  have hNT : N < all6 n := by omega
  have hW : Hid (∀ s, worth n (values n (sco n P k b) (r - 1)) N s = sums n s (values n (sco n P k b) (r - 1)) n N) := fun _ => rfl
  have hwb : Hid (∀ s, 0 ≤ worth n (values n (sco n P k b) (r - 1)) N s ∧ worth n (values n (sco n P k b) (r - 1)) N s ≤ 906992640) := fun s => by
    obtain ⟨v1, v2⟩ := within_vals h3 hp k b (r := r - 1) (by omega)
    exact sums_bound h3 v1 v2 n (Nat.le_refl _) N hNT
  clear hok hg hm hgo hp hk hN hN0
  generalize worth n (values n (sco n P k b) (r - 1)) N = F at *
  generalize values n (sco n P k b) (r - 1) = V at *
  generalize 2 ^ n = M at *
  generalize all6 n = T at *
  obtain ⟨i0, hi, hz0, hz1, hz2⟩ := info_parts OwnL.info_int
  have Hi := Lib.hid (And.intro hi (And.intro hz0 (And.intro hz1 hz2)))
  clear hi hz0 hz1 hz2
  have hP0 := At.newG k b w 25
  have hB := na (n0 w) (.cells #[.int .i64 k, .int .i64 b] 25)
  have H := Lib.hid (h.up hB); clear h
  go_enter Try.func72, Try.ntmps72
  go_wp2_with fail
  refine (Hsc.out _ H.out).mono ?_
  rintro e w1 ⟨g, c1, rfl, hg, hA, hb1⟩
  have hB1 := hB.trans (hb1.mono hB.size)
  have hB2 := na hB1 (.cells #[] 3)
  have hA2 := hA.past (.cells #[] 3)
  have hO2 : (w1.alloc (.cells #[] 3)).ownsRow w1.heap.size 3 1 (.slice (some ⟨w1.heap.size, 0, none⟩) 0 0) 0 [] := World.ownsRow_made w1 (e := 3) (size := 1) #[] 0 (Nat.le_refl _) (by decide) rfl
  have hBw : w.heap.size ≤ w1.heap.size := hB1.size
  have hgB : g < w1.heap.size := hA.lt
  obtain ⟨B, hBB⟩ : ∃ B, B = w1.heap.size := ⟨_, rfl⟩
  rw [← hBB] at hO2 hBw hgB
  have hBs : B ≤ (w1.alloc (.cells #[] 3)).heap.size := by rw [size_alloc]; omega
  have HBB := Lib.hid hBB; clear hBB
  clear hA hB1 hb1 hB e1 hP0
  go_wp2_with fail
  go_loopw [10, 11, 12] (fun ov mv sv wx => ∃ s : Nat, s ≤ M ∧ sv = .int .i64 s ∧ mv = .int .i64 (AgainM.top F s).2 ∧ wx.ownsRow B 3 1 ov (slist F s).length (nv (slist F s)) ∧ ov ≠ .slice none 0 0 ∧ At wx g T V ∧ B ≤ wx.heap.size ∧ Below w.heap.size w wx) (fun _ _ sv _ => M - (intOf sv).toNat)
  case atStart => exact ⟨0, by omega, rfl, rfl, by rw [← HBB.out]; exact hO2, by simp, hA2, hBs, hB2⟩
  case round =>
    clear hO2 hA2 hBs hB2
    obtain ⟨s, hs, rfl, rfl, hO, hne, hA, hBs, hB⟩ := hrel
    by_cases hsl : s < M
    · have hst : decide ((s : Int) < (M : Int)) = true := decide_eq_true (by omega)
      have Hss := Lib.hid (fun g c w h => Hsu.out s g c w (by omega) h)
      have hFs : F s = sums n s V n N := hW.out s
      have hbd := hwb.out s
      have htb := (top_bound (F := F) (B := 906992640) s (fun j _ => hwb.out j)).2.1
      have htc := (top_bound (F := F) (B := 906992640) s (fun j _ => hwb.out j)).1
      have Hnew := Lib.hid (fun h => @slist_new F s h)
      have Hsame := Lib.hid (fun h => @slist_same F s h)
      have Hless := Lib.hid (fun h => @slist_less F s h)
      have hlen := slist_len F s
      go_wp2_with fail
      refine (Hss.out _ _ _ hA).mono ?_
      rintro e w3 ⟨gs, cs, rfl, hgs, hS, hb3⟩
      have cN := hS.cell N hNT
      rw [← hFs] at cN
      have hA3 := hA.up hb3
      have hO3 := own_up hO hb3
      have hB3 := nx hB hb3
      have hBs3 := Nat.le_trans hBs hb3.size
      clear hA hO hB hBs hb3 hgs hS hFs
      rcases Int.lt_trichotomy (AgainM.top F s).2 (F s) with hl | he | hgt
      · obtain ⟨t1, t2⟩ := Hnew.out hl
        have hd1 : decide ((AgainM.top F s).2 < F s) = true := decide_eq_true hl
        have hO4 : (w3.alloc (.cells #[] 3)).ownsRow B 3 1 (.slice (some ⟨w3.heap.size, 0, none⟩) 0 0) 0 [] := World.ownsRow_made w3 (e := 3) (size := 1) #[] 0 hBs3 (by decide) rfl
        have hA4 := hA3.past (.cells #[] 3)
        have hB4 := na hB3 (.cells #[] 3)
        have HO4 := Lib.hid hO4; clear hO4
        have HO3 := Lib.hid hO3; clear hO3
        have T1 := Lib.hid t1; clear t1
        have T2 := Lib.hid t2; clear t2
        generalize (AgainM.top F s).2 = tp at *
        generalize F s = x at *
        go_wp2_with (at_builtin; refine wpList_append_own _ rfl _ _ 28 rfl B 3 i0 (.int .i64 0) 1 8 Try.underlying28 Hi.out.1 Hi.out.2.1 Hi.out.2.2.1 Hi.out.2.2.2 rfl (by decide) _ _ _ rfl (HO4.out.alloc _) ⟨w3.heap.size + 1, 0, none⟩ 1 1 [.int .i64 (s : Int)] rfl rfl ?c1 ?c2 ?c3 ?c4 ?c5 ?_)
        case c1 =>
          have := cell_one (w3.alloc (.cells #[] 3)) (.int .i64 (s : Int)) 3
          rw [size_alloc] at this
          exact news_one this
        case c2 => intro u hu; simp at hu; subst hu; rfl
        case c3 => unfold maxLen; omega
        case c4 => omega
        case c5 => simp; omega
        · intro v' w4 hO5 hg5 hv5
          have hA5 := At.keptO (hA4.past (.cells #[.int .i64 (s : Int)] 3)) hg5 (own_not (HO4.out.alloc (.cells #[.int .i64 (s : Int)] 3)) hgB)
          have hBa := na hB4 (.cells #[.int .i64 (s : Int)] 3)
          have hB5 := hBa.grown hg5 hBa.size (fun j e => by have := (HO4.out.lt j e).1; omega)
          have hs5 : B ≤ w4.heap.size := by have := hg5.size; rw [size_alloc, size_alloc] at this; omega
          have hv : v' ≠ .slice none 0 0 := hv5
          have hO6 : w4.ownsRow B 3 1 v' (slist F (s + 1)).length (nv (slist F (s + 1))) := by rw [T2.out]; exact hO5
          clear hO5 hg5 hv5 hA4 hB4
          go_wp2_with fail
          go_roundw
          case rel => exact ⟨s + 1, by omega, by go_num, by rw [T1.out], hO6, hv, hA5, hs5, hB5⟩
          case measure => simp [intOf]; omega
      · obtain ⟨t1, t2⟩ := Hsame.out he.symm
        have hd1 : decide ((AgainM.top F s).2 < F s) = false := decide_eq_false (by omega)
        have hd2 : (F s == (AgainM.top F s).2) = true := by rw [he]; exact beq_self_eq_true _
        have HO3 := Lib.hid hO3; clear hO3
        have T1 := Lib.hid t1; clear t1
        have T2 := Lib.hid t2; clear t2
        have he' := Lib.hid he
        clear he
        generalize (AgainM.top F s).2 = tp at *
        generalize F s = x at *
        obtain rfl : tp = x := he'.out
        go_wp2_with (at_builtin; refine wpList_append_own _ rfl _ _ 28 rfl B 3 i0 (.int .i64 0) 1 8 Try.underlying28 Hi.out.1 Hi.out.2.1 Hi.out.2.2.1 Hi.out.2.2.2 rfl (by decide) _ _ _ rfl (HO3.out.alloc _) ⟨w3.heap.size, 0, none⟩ 1 1 [.int .i64 (s : Int)] rfl rfl ?d1 ?d2 ?d3 ?d4 ?d5 ?_)
        case d1 => exact news_one (cell_one _ _ _)
        case d2 => intro u hu; simp at hu; subst hu; rfl
        case d3 => unfold maxLen; omega
        case d4 => omega
        case d5 => simp; omega
        · intro v' w4 hO5 hg5 hv5
          have hA5 := At.keptO (hA3.past (.cells #[.int .i64 (s : Int)] 3)) hg5 (own_not (HO3.out.alloc (.cells #[.int .i64 (s : Int)] 3)) hgB)
          have hBa := na hB3 (.cells #[.int .i64 (s : Int)] 3)
          have hB5 := hBa.grown hg5 hBa.size (fun j e => by have := (HO3.out.lt j e).1; omega)
          have hs5 : B ≤ w4.heap.size := by have := hg5.size; rw [size_alloc] at this; omega
          have hv : v' ≠ .slice none 0 0 := hv5
          have hO6 : w4.ownsRow B 3 1 v' (slist F (s + 1)).length (nv (slist F (s + 1))) := by rw [T2.out, ← nv_snoc, List.length_append]; exact hO5
          clear hO5 hg5 hv5
          go_wp2_with fail
          go_roundw
          case rel => exact ⟨s + 1, by omega, by go_num, by rw [T1.out], hO6, hv, hA5, hs5, hB5⟩
          case measure => simp [intOf]; omega
      · obtain ⟨t1, t2⟩ := Hless.out hgt
        have hd1 : decide ((AgainM.top F s).2 < F s) = false := decide_eq_false (by omega)
        have hd2 : (F s == (AgainM.top F s).2) = false := beq_eq_false_iff_ne.2 (by omega)
        have T1 := Lib.hid t1; clear t1
        have T2 := Lib.hid t2; clear t2
        generalize (AgainM.top F s).2 = tp at *
        generalize F s = x at *
        go_wp2_with fail
        go_roundw
        case rel => exact ⟨s + 1, by omega, by go_num, by rw [T1.out], by rw [T2.out]; exact hO3, hne, hA3, hBs3, hB3⟩
        case measure => simp [intOf]; omega
    · obtain rfl : s = M := by omega
      have hst : decide ((s : Int) < (s : Int)) = false := decide_eq_false (by omega)
      go_wp2_with fail
      go_ret
      exact ⟨_, B, rfl, hBw, hne, hO, hB⟩


end BestS
end Go.Proofs.Ytppaegibhikjnaa
