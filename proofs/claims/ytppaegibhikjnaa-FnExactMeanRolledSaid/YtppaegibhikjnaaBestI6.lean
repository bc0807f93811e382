/-
  BestSets and BestSet, by the program.
-/
import Derived.Test.YtppaegibhikjnaaRows
import Derived.Test.YtppaegibhikjnaaVFacts
import Derived.Test.YtppaegibhikjnaaAgainM
import Derived.Test.YtppaegibhikjnaaPowW
import Derived.Test.YtppaegibhikjnaaOwnL
import Derived.Test.YtppaegibhikjnaaAll6
import Derived.Test.YtppaegibhikjnaaAll9
import Derived.Test.YtppaegibhikjnaaSumsS
import Derived.Test.YtppaegibhikjnaaRolledI
import Derived.Test.YtppaegibhikjnaaArr
import Derived.Test.YtppaegibhikjnaaDieW
import Derived.Test.YtppaegibhikjnaaFracW
import Derived.Test.YtppaegibhikjnaaSortW
import Derived.Test.YtppaegibhikjnaaDicesW
import Derived.Test.YtppaegibhikjnaaPoolW
import Derived.Test.YtppaegibhikjnaaGoalW
import Derived.Test.YtppaegibhikjnaaScoreM
import Derived.Test.YtppaegibhikjnaaScoreW
import Derived.Test.YtppaegibhikjnaaIntsW
import Derived.Test.YtppaegibhikjnaaRollN
import Derived.Test.YtppaegibhikjnaaPairA
import Derived.Test.YtppaegibhikjnaaGameW
import Derived.Test.YtppaegibhikjnaaScoreI
import Derived.Test.YtppaegibhikjnaaGridL
import Derived.Test.YtppaegibhikjnaaCutW
import Derived.Test.YtppaegibhikjnaaIntsW
import Derived.Test.YtppaegibhikjnaaRollN
import Derived.Test.YtppaegibhikjnaaValM
import Derived.Test.YtppaegibhikjnaaBestM
import Derived.Test.YtppaegibhikjnaaValsS
import Derived.Test.YtppaegibhikjnaaBestS
import Derived.Test.YtppaegibhikjnaaBestT
import Derived.Test.YtppaegibhikjnaaSetsI
import Derived.Test.YtppaegibhikjnaaTopW
import Derived.Test.YtppaegibhikjnaaRest1
import Derived.Test.YtppaegibhikjnaaShelfMax
import Derived.Test.YtppaegibhikjnaaOpenD
import Derived.WalkKit
import Derived.Deep.WholeRow
import Derived.Deep.AppendLies
import Derived.FnLit
import Derived.WalkLawsBesides
import Derived.WalkSpells
import Derived.ProofKit
import Derived.OpenShut
import Derived.Deep.RegionWith
import Derived.Deep.QuietTactic
import Derived.BigQuiet
namespace Go.Proofs.Ytppaegibhikjnaa
open Go.ChangeShapes Go.WideShapes Go.ChangeAt Go.RowKit
open Go.ChangeMaps (open_string shut_string)

namespace BestI6
open Dice Arr AgainM PowW OwnL All6 All9 SumsS RolledI FracW OpenD DieW SortW PoolW DicesW GoalW ScoreM ScoreW IntsW RollW PairA GameW ScoreI VFacts GridL CutW ValM BestM ValsS BestS BestT SetsI Rest1


theorem first_any (F : Nat → Int) (g m c : Nat) (w : World) (hF : ∀ k, 0 ≤ F k) (h1 : 1 ≤ m) (hm : m ≤ 1000) (h : At w g m F) :
    Calls Try.prog 71 #[.slice (some ⟨g, 0, none⟩) m c] w fun e w' => e = .returned (.tuple #[.int .i64 (AgainM.top F m).1, .int .i64 (AgainM.top F m).2]) ∧ w' = w := by
  obtain ⟨m, rfl⟩ : ∃ k, m = k + 1 := ⟨m - 1, by omega⟩
  have := TopW.firstMost_any F hF g m c (by omega) w h
  rw [top_same] at this
  exact this

set_option maxRecDepth 100000 in
set_option maxHeartbeats 8000000 in
theorem implBestSet_any (A : Option Addr) (n c : Nat) (P : Nat → Nat → Int) (k b N r : Int) (w : World) (h : Row w A n P) (hn : n ≤ maxLen) :
    Calls Try.prog 29 #[.slice A n c, v2 k b, .int .i64 N, .int .i64 r] w fun e w' => e = .returned (.tuple #[.int .i64 (nf (bl n P k b N r) 0), .bool (okVal n P k b N r 1)]) ∧ Below w.heap.size w w' := by
  have hB := na (n0 w) (.cells #[.int .i64 k, .int .i64 b] 25)
  have H := Lib.hid (h.up hB); clear h
  cases hz : okVal n P k b N r 1
  · have Hsr := Lib.hid (fun w h => setsRollNo_any A n c P k b N r w h hn hz)
    rw [show nf (bl n P k b N r) 0 = 0 from by rw [bl_no hz]; rfl]
    clear hz
    go_enter Try.func29, Try.ntmps29
    go_wp2_with fail
    refine (Hsr.out _ H.out).mono ?_
    rintro e w1 ⟨rfl, hb1⟩
    go_wp2_with fail
    go_ret2
    exact ⟨rfl, hB.trans (hb1.mono hB.size)⟩
  · obtain ⟨hg, hN0, _⟩ := of_val hz
    obtain ⟨hm, _, hr1, _⟩ := of_game hg
    have h3 := (of_many hm).2.1
    obtain ⟨N, rfl⟩ : ∃ m : Nat, N = m := ⟨N.toNat, by omega⟩
    obtain ⟨r, rfl⟩ : ∃ m : Nat, r = m := ⟨r.toNat, by omega⟩
    have Hsr := Lib.hid (fun w h => setsRoll_any A n c N r P k b w h hz)
    have hx : nf (bl n P k b N r) 0 = ((AgainM.top (worth n (values n (sco n P k b) (r - 1)) N) (2 ^ n)).1 : Int) := by
      show (((bl n P k b N r).getD 0 0 : Nat) : Int) = _
      rw [(bl_head hz).2]
    have hF := worth_all hz
    obtain ⟨_, hM8, hM1⟩ := shl_two h3
    rw [hx]
    clear hz hg hm hx hN0
    generalize worth n (values n (sco n P k b) (r - 1)) N = F at *
    have Hfi := Lib.hid (fun g c w h => first_any F g (2 ^ n) c w hF hM1 (by omega) h)
    generalize (AgainM.top F (2 ^ n)).2 = y at *
    generalize (AgainM.top F (2 ^ n)).1 = x at *
    clear h3
    generalize 2 ^ n = M at *
    go_enter Try.func29, Try.ntmps29
    go_wp2_with fail
    refine (Hsr.out _ H.out).mono ?_
    rintro e w1 ⟨g, c', rfl, hA, hb1⟩
    go_wp2_with fail
    refine (Hfi.out _ _ _ hA).mono ?_
    rintro e w5 ⟨rfl, hw5⟩
    have hw5 := hw5.symm
    subst hw5
    go_wp2_with fail
    go_ret2
    exact ⟨rfl, hB.trans (hb1.mono hB.size)⟩

set_option maxRecDepth 100000 in
set_option maxHeartbeats 8000000 in
theorem implBestSets_any (A : Option Addr) (n c : Nat) (P : Nat → Nat → Int) (k b N r : Int) (w : World) (h : Row w A n P) (hn : n ≤ maxLen) :
    Calls Try.prog 31 #[.slice A n c, v2 k b, .int .i64 N, .int .i64 r] w fun e w' => ∃ A' c', e = .returned (.tuple #[.slice A' (bl n P k b N r).length c', .bool (okVal n P k b N r 1)]) ∧ Ints w.heap.size w' A' (bl n P k b N r).length (nf (bl n P k b N r)) ∧ Below w.heap.size w w' := by
  have hB := na (n0 w) (.cells #[.int .i64 k, .int .i64 b] 25)
  have H := Lib.hid (h.up hB); clear h
  cases hz : okVal n P k b N r 1
  · have Hsr := Lib.hid (fun w h => setsRollNo_any A n c P k b N r w h hn hz)
    rw [bl_no hz]
    clear hz
    go_enter Try.func31, Try.ntmps31
    go_wp2_with fail
    refine (Hsr.out _ H.out).mono ?_
    rintro e w1 ⟨rfl, hb1⟩
    go_wp2_with fail
    go_ret2
    exact ⟨_, _, rfl, .inl rfl, hB.trans (hb1.mono hB.size)⟩
  · obtain ⟨hg, hN0, _⟩ := of_val hz
    obtain ⟨hm, _, hr1, _⟩ := of_game hg
    have h3 := (of_many hm).2.1
    obtain ⟨N, rfl⟩ : ∃ m : Nat, N = m := ⟨N.toNat, by omega⟩
    obtain ⟨r, rfl⟩ : ∃ m : Nat, r = m := ⟨r.toNat, by omega⟩
    have Hsr := Lib.hid (fun w h => setsRoll_any A n c N r P k b w h hz)
    have hF := worth_all hz
    obtain ⟨_, hM8, hM1⟩ := shl_two h3
    rw [bl_yes hz]
    clear hz hg hm hN0
    generalize worth n (values n (sco n P k b) (r - 1)) N = F at *
    have Hfi := Lib.hid (fun g c w h => first_any F g (2 ^ n) c w hF hM1 (by omega) h)
    unfold slist
    generalize (AgainM.top F (2 ^ n)).2 = y at *
    generalize (AgainM.top F (2 ^ n)).1 = x at *
    clear h3
    generalize 2 ^ n = M at *
    have hlen := spots_len F y
    have hsucc := spots_succ F y
    have Hsp := Lib.hid hsucc; clear hsucc
    obtain ⟨i0, hi, hz0, hz1, hz2⟩ := info_parts OwnL.info_int
    have Hi := Lib.hid (And.intro hi (And.intro hz0 (And.intro hz1 hz2)))
    clear hi hz0 hz1 hz2
    have hs0 : spots F y 0 = [] := rfl
    go_enter Try.func31, Try.ntmps31
    go_wp2_with fail
    refine (Hsr.out _ H.out).mono ?_
    rintro e w1 ⟨g, c', rfl, hA, hb1⟩
    have hB1 := hB.trans (hb1.mono hB.size)
    have hgl := hA.lt
    obtain ⟨B, hBB⟩ : ∃ B, B = w1.heap.size := ⟨_, rfl⟩
    have hBw : w.heap.size ≤ B := by rw [hBB]; exact hB1.size
    have hB1s : B ≤ w1.heap.size := Nat.le_of_eq hBB
    rw [← hBB] at hgl
    clear hBB hB hb1
    go_wp2_with fail
    refine (Hfi.out _ _ _ hA).mono ?_
    rintro e w5 ⟨rfl, hw5⟩
    have hw5 := hw5.symm
    subst hw5
    go_wp2_with fail
    go_loopw [14, 34] (fun ov sv wx => ∃ s : Nat, s ≤ M ∧ sv = .int .i64 s ∧ wx.ownsRow B 3 1 ov (spots F y s).length (nv (spots F y s)) ∧ At wx g M F ∧ B ≤ wx.heap.size ∧ Below w.heap.size w wx) (fun _ sv _ => M - (intOf sv).toNat)
    case atStart => exact ⟨0, by omega, rfl, by rw [hs0]; exact World.ownsRow_nil _ _ _ _, hA, hB1s, hB1⟩
    case round =>
      clear hA hB1s hB1
      obtain ⟨s, hs, rfl, hO, hA, hBs, hB⟩ := hrel
      by_cases hsl : s < M
      · have hst : decide ((s : Int) < (M : Int)) = true := decide_eq_true (by omega)
        have cs := hA.cell s hsl
        have hl := hlen s
        by_cases hFy : F s = y
        · have hd : (F s == y) = true := by rw [hFy]; exact beq_self_eq_true _
          have T2 : Hid (spots F y (s + 1) = spots F y s ++ [s]) := by
            have := Hsp.out s
            rw [if_pos hFy] at this
            exact this
          have HO := Lib.hid hO; clear hO
          have HFy := Lib.hid hFy; clear hFy
          generalize F s = fs at *
          go_wp2_with (at_builtin; refine wpList_append_own _ rfl _ _ 28 rfl B 3 i0 (.int .i64 0) 1 8 Try.underlying28 Hi.out.1 Hi.out.2.1 Hi.out.2.2.1 Hi.out.2.2.2 rfl (by decide) _ _ _ rfl (HO.out.alloc _) ⟨wr.heap.size, 0, none⟩ 1 1 [.int .i64 (s : Int)] rfl rfl ?d1 ?d2 ?d3 ?d4 ?d5 ?_)
          case d1 => exact news_one (cell_one _ _ _)
          case d2 => intro u hu; simp at hu; subst hu; rfl
          case d3 => unfold maxLen; omega
          case d4 => omega
          case d5 => simp; omega
          · intro v' w4 hO5 hg5 hv5
            have hA5 := At.keptO (hA.past (.cells #[.int .i64 (s : Int)] 3)) hg5 (own_not (HO.out.alloc (.cells #[.int .i64 (s : Int)] 3)) hgl)
            have hBa := na hB (.cells #[.int .i64 (s : Int)] 3)
            have hB5 := hBa.grown hg5 hBa.size (fun j e => by have := (HO.out.lt j e).1; omega)
            have hs5 : B ≤ w4.heap.size := by have := hg5.size; rw [size_alloc] at this; omega
            have hO6 : w4.ownsRow B 3 1 v' (spots F y (s + 1)).length (nv (spots F y (s + 1))) := by rw [T2.out, ← nv_snoc, List.length_append]; exact hO5
            clear hO5 hg5 hv5
            go_wp2_with fail
            go_roundw
            case rel => exact ⟨s + 1, by omega, by go_num, hO6, hA5, hs5, hB5⟩
            case measure => simp [intOf]; omega
        · have hd : (F s == y) = false := beq_eq_false_iff_ne.2 hFy
          have T2 : Hid (spots F y (s + 1) = spots F y s) := by
            have := Hsp.out s
            rw [if_neg hFy] at this
            exact this
          have HFy := Lib.hid hFy; clear hFy
          generalize F s = fs at *
          go_wp2_with fail
          go_roundw
          case rel => exact ⟨s + 1, by omega, by go_num, by rw [T2.out]; exact hO, hA, hBs, hB⟩
          case measure => simp [intOf]; omega
      · obtain rfl : s = M := by omega
        have hst : decide ((s : Int) < (s : Int)) = false := decide_eq_false (by omega)
        obtain ⟨A', c'', rfl, hI⟩ := ints_own hO
        go_wp2_with fail
        go_ret2
        exact ⟨_, _, rfl, hI.mono hBw, hB⟩


end BestI6
end Go.Proofs.Ytppaegibhikjnaa
