/-
  MeanRolled, by the program.
-/
import Derived.Test.YtppaegibhikjnaaRows
import Derived.Test.YtppaegibhikjnaaVFacts
import Derived.Test.YtppaegibhikjnaaAgainM
import Derived.Test.YtppaegibhikjnaaPowW
import Derived.Test.YtppaegibhikjnaaOwnL
import Derived.Test.YtppaegibhikjnaaAll6
import Derived.Test.YtppaegibhikjnaaAll9
import Derived.Test.YtppaegibhikjnaaSumsS
import Derived.Test.YtppaegibhikjnaaRolledI
import Derived.Test.YtppaegibhikjnaaArr
import Derived.Test.YtppaegibhikjnaaDieW
import Derived.Test.YtppaegibhikjnaaFracW
import Derived.Test.YtppaegibhikjnaaSortW
import Derived.Test.YtppaegibhikjnaaDicesW
import Derived.Test.YtppaegibhikjnaaPoolW
import Derived.Test.YtppaegibhikjnaaGoalW
import Derived.Test.YtppaegibhikjnaaScoreM
import Derived.Test.YtppaegibhikjnaaScoreW
import Derived.Test.YtppaegibhikjnaaIntsW
import Derived.Test.YtppaegibhikjnaaRollN
import Derived.Test.YtppaegibhikjnaaPairA
import Derived.Test.YtppaegibhikjnaaGameW
import Derived.Test.YtppaegibhikjnaaScoreI
import Derived.Test.YtppaegibhikjnaaGridL
import Derived.Test.YtppaegibhikjnaaCutW
import Derived.Test.YtppaegibhikjnaaIntsW
import Derived.Test.YtppaegibhikjnaaRollN
import Derived.Test.YtppaegibhikjnaaValM
import Derived.Test.YtppaegibhikjnaaKeptM
import Derived.Test.YtppaegibhikjnaaSetsI
import Derived.Test.YtppaegibhikjnaaTopW
import Derived.Test.YtppaegibhikjnaaRest1
import Derived.Test.YtppaegibhikjnaaShelfMax
import Derived.Test.YtppaegibhikjnaaBestI6
import Derived.Test.YtppaegibhikjnaaOnesW
import Derived.Test.YtppaegibhikjnaaOpenD
import Derived.WalkKit
import Derived.Deep.WholeRow
import Derived.Deep.AppendLies
import Derived.FnLit
import Derived.WalkLawsBesides
import Derived.WalkSpells
import Derived.ProofKit
import Derived.OpenShut
import Derived.Deep.RegionWith
import Derived.Deep.QuietTactic
import Derived.BigQuiet
namespace Go.Proofs.Ytppaegibhikjnaa
open Go.ChangeShapes Go.WideShapes Go.ChangeAt Go.RowKit
open Go.ChangeMaps (open_string shut_string)

namespace RollI6
open Dice Arr AgainM PowW OwnL All6 All9 SumsS RolledI FracW OpenD DieW SortW PoolW DicesW GoalW ScoreM ScoreW IntsW RollW PairA GameW ScoreI VFacts GridL Rest0 CutW ValM KeptM SetsI Rest1 BestI6 OnesW


theorem ones_bits {n s : Nat} (hn : n ≤ 3) (hs : s < 2 ^ n) : ones s = nbits s n := by
  have h : ∀ s : Fin 8, ∀ n : Fin 4, s.val < 2 ^ n.val → ones s.val = nbits s.val n.val := by decide +kernel
  have h8 : s < 8 := Nat.lt_of_lt_of_le hs (shl_two hn).2.1
  exact h ⟨s, h8⟩ ⟨n, by omega⟩ hs
set_option maxRecDepth 100000 in
set_option maxHeartbeats 8000000 in
theorem implRolled_any (A : Option Addr) (n c : Nat) (P : Nat → Nat → Int) (k b r : Int) (w : World) (h : Row w A n P) (hn : n ≤ maxLen) :
    Calls Try.prog 38 #[.slice A n c, v2 k b, .int .i64 r] w fun e w' => e = .returned (.tuple #[outM n P k b r, .bool (gameOk n P k b r 1)]) ∧ Below w.heap.size w w' := by
  have hR0 := At.new2 (w.alloc (.cells #[.int .i64 k, .int .i64 b] 25)) 36
  have hP0 := (At.newG k b w 25).past (.cells #[.int .i64 0, .int .i64 0] 36)
  have hB := na (na (n0 w) (.cells #[.int .i64 k, .int .i64 b] 25)) (.cells #[.int .i64 0, .int .i64 0] 36)
  have H := Lib.hid (h.up hB); clear h
  rw [size_alloc] at hR0
  have q0 := hP0.cell 0 (by omega)
  have q1 := hP0.cell 1 (by omega)
  rw [show fr k b 0 = k from rfl] at q0
  rw [show fr k b 1 = b from rfl] at q1
  cases hg : gameOk n P k b r 1
  · have Hal := Lib.hid (fun w h => setsAllNo_any A n c P k b r w h hn hg)
    rw [outM_no hg]
    clear hg
    go_enter Try.func38, Try.ntmps38
    go_wp2_with fail
    generalize (w.alloc (.cells #[.int .i64 k, .int .i64 b] 25)).alloc (.cells #[.int .i64 0, .int .i64 0] 36) = W at *
    refine (Hal.out _ H.out).mono ?_
    rintro e w1 ⟨rfl, hb1⟩
    have hB1 := hB.trans (hb1.mono hB.size)
    have hR1 := hR0.up hb1
    have c0 := hR1.cell 0 (by omega)
    have c1 := hR1.cell 1 (by omega)
    have z0 := hR1.free 0
    have z1 := hR1.free 1
    clear q0 q1
    go_wp2_with fail
    refine ret_cell_tmp (b := w.heap.size + 1) (n := 2) (f := fr 0 0) Try.results38 rfl rfl Try.underlying36 (by kernel_rfl) (fin2' hR1 0 0) rfl ⟨rfl, ?_⟩
    exact (hB1.setCell (p := ⟨w.heap.size + 1, 0, none⟩) (Nat.le_succ _) _).setCell (p := ⟨w.heap.size + 1, 1, none⟩) (Nat.le_succ _) _
  · obtain ⟨hm, _, hr1, hr2⟩ := of_game hg
    obtain ⟨_, h3, _⟩ := of_many hm
    obtain ⟨r, rfl⟩ : ∃ m : Nat, r = m := ⟨r.toNat, by omega⟩
    obtain ⟨hT, hT1, _⟩ := pow_three h3
    obtain ⟨_, hM8, hM1⟩ := shl_two h3
    have Hal := Lib.hid (fun w h => setsAll_any A n c r P k b w h hg)
    have Hfi := Lib.hid (fun m (hm : m < all6 n) g c w h => first_any (worth n (values n (sco n P k b) (r - 1)) m) g (2 ^ n) c w (worth_game hg hm) hM1 (by omega) h)
    have hpl : Hid (∀ m, (AgainM.top (worth n (values n (sco n P k b) (r - 1)) m) (2 ^ n)).1 = planF n P k b r m) := fun _ => rfl
    have Hon := Lib.hid (fun m (hm : m < all6 n) w => by
      have h2 := plan_small hg hm
      have := ones_any (planF n P k b r m) (Nat.lt_of_lt_of_le h2 hM8) w
      rw [ones_bits h3 h2] at this
      exact this)
    have Hps := Lib.hid (fun m (hm : m < all6 n) => Nat.lt_of_lt_of_le (plan_small hg hm) hM8)
    have hT' : all6 n ≤ 216 := hT
    have hT1' : 1 ≤ all6 n := hT1
    have Hnl := Lib.hid (fun m => Nat.le_trans (nrolled_le n (planF n P k b r) m) (Nat.mul_le_mul_left m h3))
    have hfr := fun w => fraction_any (nrolled n (planF n P k b r) (all6 n)) (all6 n) w (by have := Hnl.out (all6 n); omega) (by omega) hT1'
    have Hfr := Lib.hid hfr; clear hfr
    rw [outM_yes hg]
    unfold cutV
    clear hg hm hr1 hr2 hT hT1
    generalize planF n P k b r = pl at *
    generalize worth n (values n (sco n P k b) (r - 1)) = F at *
    generalize all6 n = T at *
    obtain ⟨m0, hm0⟩ : ∃ m0, m0 = nrolled n pl T := ⟨_, rfl⟩
    rw [← hm0] at Hfr ⊢
    have Hm0 := Lib.hid hm0; clear hm0
    have H3 := Lib.hid h3; clear h3
    generalize 2 ^ n = M at *
    go_enter Try.func38, Try.ntmps38
    go_wp2_with fail
    generalize (w.alloc (.cells #[.int .i64 k, .int .i64 b] 25)).alloc (.cells #[.int .i64 0, .int .i64 0] 36) = W at *
    refine (Hal.out _ H.out).mono ?_
    rintro e w1 ⟨gw, B, v, rfl, hgw, hBw, hG, hb1⟩
    have hB1 := hB.trans (hb1.mono hB.size)
    have hR1 := hR0.up hb1
    clear hB hb1 q0 q1 hR0 hP0
    go_wp2_with fail
    go_loop [10, 27] (fun sv iv => ∃ m : Nat, m ≤ T ∧ iv = .int .i64 m ∧ sv = .int .i64 ((nrolled n pl m : Nat) : Int)) (fun _ iv => T - (intOf iv).toNat)
    case atStart => exact ⟨0, by omega, rfl, rfl⟩
    case round =>
      obtain ⟨m, hm, rfl, rfl⟩ := hrel
      by_cases hlt : m < T
      · have hit : decide ((m : Int) < (T : Int)) = true := decide_eq_true (by omega)
        obtain ⟨g, c', e1, _, hA⟩ := hG.at_ hlt hM1
        have cm := hG.cell m hlt
        rw [e1] at cm
        have Hf1 := Lib.hid (Hfi.out m hlt g c' w1 hA)
        rw [hpl.out m] at Hf1
        have Ho1 := Lib.hid (Hon.out m hlt)
        have hp8 := Hps.out m hlt
        have hkl := Hnl.out m
        have hkl2 := Hnl.out (m + 1)
        have hs : Hid (nrolled n pl (m + 1) = nrolled n pl m + nbits (pl m) n) := rfl
        rw [hs.out] at hkl2
        generalize (AgainM.top (F m) M).2 = y at *
        generalize nbits (pl m) n = nb at *
        generalize pl m = pm at *
        generalize nrolled n pl m = nk at *
        clear e1 hA
        go_wp2_with fail
        refine Hf1.out.mono ?_
        rintro e w5 ⟨rfl, hw5⟩
        have hw5 := hw5.symm
        subst hw5
        go_wp2_with fail
        refine (Ho1.out _).mono ?_
        rintro e w5 ⟨rfl, hw5⟩
        have hw5 := hw5.symm
        subst hw5
        go_wp2_with fail
        go_round
        case rel => exact ⟨m + 1, by omega, by go_num, by rw [hs.out]; go_num⟩
        case measure => simp [intOf]; omega
      · obtain rfl : m = T := by omega
        have hit : decide ((m : Int) < (m : Int)) = false := decide_eq_false (by omega)
        rw [← Hm0.out]
        go_wp2_with fail
        refine (Hfr.out _).mono ?_
        rintro e w6 ⟨rfl, hb6⟩
        have hB6 := nx hB1 hb6
        have hR6 := hR1.up hb6
        have c0 := hR6.cell 0 (by omega)
        have c1 := hR6.cell 1 (by omega)
        have z0 := hR6.free 0
        have z1 := hR6.free 1
        go_wp2_with fail
        refine ret_cell_tmp (b := w.heap.size + 1) (n := 2) (f := fr ((m0 : Int) / (Nat.gcd m0 m : Nat)) ((m : Int) / (Nat.gcd m0 m : Nat))) Try.results38 rfl rfl Try.underlying36 (by kernel_rfl) (fin2' hR6 _ _) rfl ⟨rfl, ?_⟩
        exact (hB6.setCell (p := ⟨w.heap.size + 1, 0, none⟩) (Nat.le_succ _) _).setCell (p := ⟨w.heap.size + 1, 1, none⟩) (Nat.le_succ _) _



end RollI6
end Go.Proofs.Ytppaegibhikjnaa
