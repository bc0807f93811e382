/-
  The rest of a game with one reroll, by the program.
-/
import Derived.Test.YtppaegibhikjnaaRows
import Derived.Test.YtppaegibhikjnaaVFacts
import Derived.Test.YtppaegibhikjnaaAgainM
import Derived.Test.YtppaegibhikjnaaPowW
import Derived.Test.YtppaegibhikjnaaOwnL
import Derived.Test.YtppaegibhikjnaaAll6
import Derived.Test.YtppaegibhikjnaaAll9
import Derived.Test.YtppaegibhikjnaaSumsS
import Derived.Test.YtppaegibhikjnaaRolledI
import Derived.Test.YtppaegibhikjnaaArr
import Derived.Test.YtppaegibhikjnaaDieW
import Derived.Test.YtppaegibhikjnaaFracW
import Derived.Test.YtppaegibhikjnaaSortW
import Derived.Test.YtppaegibhikjnaaDicesW
import Derived.Test.YtppaegibhikjnaaPoolW
import Derived.Test.YtppaegibhikjnaaGoalW
import Derived.Test.YtppaegibhikjnaaScoreM
import Derived.Test.YtppaegibhikjnaaScoreW
import Derived.Test.YtppaegibhikjnaaIntsW
import Derived.Test.YtppaegibhikjnaaRollN
import Derived.Test.YtppaegibhikjnaaPairA
import Derived.Test.YtppaegibhikjnaaGameW
import Derived.Test.YtppaegibhikjnaaScoreI
import Derived.Test.YtppaegibhikjnaaGridL
import Derived.Test.YtppaegibhikjnaaRest0
import Derived.Test.YtppaegibhikjnaaSets1
import Derived.Test.YtppaegibhikjnaaShelfMax
import Derived.Test.YtppaegibhikjnaaTopW
import Derived.Test.YtppaegibhikjnaaOpenD
import Derived.WalkKit
import Derived.Deep.WholeRow
import Derived.Deep.AppendLies
import Derived.FnLit
import Derived.WalkLawsBesides
import Derived.WalkSpells
import Derived.ProofKit
import Derived.OpenShut
import Derived.Deep.RegionWith
import Derived.Deep.QuietTactic
import Derived.BigQuiet
namespace Go.Proofs.Ytppaegibhikjnaa
open Go.ChangeShapes Go.WideShapes Go.ChangeAt Go.RowKit
open Go.ChangeMaps (open_string shut_string)

namespace Rest1
open Dice Arr AgainM PowW OwnL All6 All9 SumsS RolledI FracW OpenD DieW SortW PoolW DicesW GoalW ScoreM ScoreW IntsW RollW PairA GameW ScoreI VFacts GridL Rest0 Sets1


theorem top_same (F : Nat → Int) : ∀ k, TopW.top F k = AgainM.top F k
  | 0 => rfl
  | k + 1 => by
    show (if (TopW.top F k).2 < F k then (k, F k) else TopW.top F k) = (if (AgainM.top F k).2 < F k then (k, F k) else AgainM.top F k)
    rw [top_same F k]
theorem maxTop_any (F : Nat → Int) (g m c : Nat) (w : World) (hF : ∀ k, 0 ≤ F k) (h1 : 1 ≤ m) (hm : m ≤ 1000) (h : At w g m F) :
    Calls Try.prog 57 #[.slice (some ⟨g, 0, none⟩) m c] w fun e w' => e = .returned (.int .i64 (AgainM.top F m).2) ∧ w' = w := by
  have := Try.slices_Max_int g 0 m c (TopW.ints F m) w (by omega) (by rw [TopW.ints_len]; omega) (by omega) (fun j hj => by
    rw [TopW.ints_len] at hj
    rw [Nat.zero_add, TopW.ints_get hj]
    exact h.cell j hj)
  obtain ⟨m, rfl⟩ : ∃ k, m = k + 1 := ⟨m - 1, by omega⟩
  rw [TopW.max_top hF (m + 1) m (Nat.le_refl _), top_same] at this
  exact this
set_option maxHeartbeats 4000000 in
theorem call1_any (n B gw bw N T : Nat) (V : Nat → Int) (v : Nat → Value) (w : World) (hn : n ≤ 3) (hV : ∀ m, m < T → ∀ s, 0 ≤ worth n V m s) (hN : N < T)
    (cw : w.cell? ⟨bw, 0, none⟩ = some (.slice (some ⟨gw, 0, none⟩) T T)) (hG : Grid w B gw T (fun _ => 2 ^ n) (worth n V) v) :
    Calls Try.prog 97 #[.int .i64 N, .pointer (some ⟨bw, 0, none⟩)] w fun e w' => e = .returned (.int .i64 (best n V N)) ∧ Below w.heap.size w w' := by
  obtain ⟨_, hM8, hM1⟩ := shl_two hn
  obtain ⟨g, c, e1, _, hA⟩ := hG.at_ hN hM1
  have c1 := hG.cell N hN
  rw [e1] at c1
  have Hm := Lib.hid (maxTop_any (worth n V N) g (2 ^ n) c w (hV N hN) hM1 (by omega) hA)
  have hbest : Hid (best n V N = (AgainM.top (worth n V N) (2 ^ n)).2) := rfl
  generalize best n V N = bb at *
  generalize (AgainM.top (worth n V N) (2 ^ n)).2 = tt at *
  generalize 2 ^ n = M at *
  clear hG hV e1 hA hM8 hM1
  go_enter Try.func97, Try.ntmps97
  go_wp2_with fail
  refine Hm.out.mono ?_
  rintro e w2 ⟨rfl, rfl⟩
  go_wp2_with fail
  go_ret
  exact ⟨by rw [hbest.out]; rfl, n0 _⟩

set_option maxHeartbeats 4000000 in
theorem rest1_any (A : Option Addr) (n c : Nat) (P : Nat → Nat → Int) (k b : Int) (w : World) (h : Row w A n P) (h1 : 1 ≤ n) (hn : n ≤ 3) (hp : pooled P n) (hk : k = 1 ∨ k = 2 ∨ k = 3 ∨ k = 4 ∨ k = 5) :
    Calls Try.prog 66 #[.slice A n c, scV k b, .int .i64 1] w fun e w' => ∃ bw, e = .returned (.func (.func 97) #[] #[.pointer (some ⟨bw, 0, none⟩)]) ∧ Below w.heap.size w w' ∧
      Hid (∀ N wr, N < all6 n → Below w'.heap.size w' wr → Calls Try.prog 97 #[.int .i64 N, .pointer (some ⟨bw, 0, none⟩)] wr fun e w2 => e = .returned (.int .i64 (values n (sco n P k b) 1 N)) ∧ Below wr.heap.size wr w2) := by
  have hmf : ∀ (fn : Fn) (first cap : Array Value) (w : World), (Instr.makeFunc fn first cap).run Try.prog w = .ok (.func fn first cap) w := fun _ _ _ _ => rfl
  have hb := na (na (n0 w) (.cells #[.slice A n c] 34)) (.cells #[scV k b] 65)
  have hR := h.up hb
  have Hs := Lib.hid (fun w h => sets1_any A n c P k b w h h1 hn hp hk)
  have Hnn := Lib.hid (fun m s hm => (within_worth (within_vals hn hp k b (r := 0) (by omega)).1 (N := m) hm s).1)
  have hval : ∀ N, values n (sco n P k b) 1 N = best n (values n (sco n P k b) 0) N := fun _ => rfl
  have Hval := Lib.hid hval; clear hval
  generalize values n (sco n P k b) 0 = V at *
  clear h
  go_enter Try.func66, Try.ntmps66
  go_wp2_with fail
  refine (Hs.out _ hR).mono ?_
  rintro e w1 ⟨gw, B, v, rfl, hgw, hBw, hG, hb1⟩
  have hb2 := hb.trans (hb1.mono hb.size)
  go_wp2_with fail
  go_ret
  refine ⟨_, rfl, na hb2 _, fun N wr hN hB => ?_⟩
  have hG1 := (hG.up (na (n0 w1) (.cells #[.slice (some ⟨gw, 0, none⟩) (all6 n) (all6 n)] 78))).up hB
  have c1 := cell_one w1 (.slice (some ⟨gw, 0, none⟩) (all6 n) (all6 n)) 78
  have c2 := (hB.cell (p := ⟨w1.heap.size, 0, none⟩) (by rw [size_alloc]; exact Nat.lt_succ_self _)).trans c1
  rw [Hval.out]
  exact call1_any n B gw _ N (all6 n) V v wr hn (fun m hm s => Hnn.out m s hm) hN c2 hG1


end Rest1
end Go.Proofs.Ytppaegibhikjnaa
