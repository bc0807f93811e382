/-
  The rest of a game with two rerolls, by the program.
-/
import Derived.Test.YtppaegibhikjnaaRows
import Derived.Test.YtppaegibhikjnaaVFacts
import Derived.Test.YtppaegibhikjnaaAgainM
import Derived.Test.YtppaegibhikjnaaPowW
import Derived.Test.YtppaegibhikjnaaOwnL
import Derived.Test.YtppaegibhikjnaaAll6
import Derived.Test.YtppaegibhikjnaaAll9
import Derived.Test.YtppaegibhikjnaaSumsS
import Derived.Test.YtppaegibhikjnaaRolledI
import Derived.Test.YtppaegibhikjnaaArr
import Derived.Test.YtppaegibhikjnaaDieW
import Derived.Test.YtppaegibhikjnaaFracW
import Derived.Test.YtppaegibhikjnaaSortW
import Derived.Test.YtppaegibhikjnaaDicesW
import Derived.Test.YtppaegibhikjnaaPoolW
import Derived.Test.YtppaegibhikjnaaGoalW
import Derived.Test.YtppaegibhikjnaaScoreM
import Derived.Test.YtppaegibhikjnaaScoreW
import Derived.Test.YtppaegibhikjnaaIntsW
import Derived.Test.YtppaegibhikjnaaRollN
import Derived.Test.YtppaegibhikjnaaPairA
import Derived.Test.YtppaegibhikjnaaGameW
import Derived.Test.YtppaegibhikjnaaScoreI
import Derived.Test.YtppaegibhikjnaaGridL
import Derived.Test.YtppaegibhikjnaaRest0
import Derived.Test.YtppaegibhikjnaaRest1
import Derived.Test.YtppaegibhikjnaaSets2
import Derived.Test.YtppaegibhikjnaaOpenD
import Derived.WalkKit
import Derived.Deep.WholeRow
import Derived.Deep.AppendLies
import Derived.FnLit
import Derived.WalkLawsBesides
import Derived.WalkSpells
import Derived.ProofKit
import Derived.OpenShut
import Derived.Deep.RegionWith
import Derived.Deep.QuietTactic
import Derived.BigQuiet
namespace Go.Proofs.Ytppaegibhikjnaa
open Go.ChangeShapes Go.WideShapes Go.ChangeAt Go.RowKit
open Go.ChangeMaps (open_string shut_string)

namespace Rest2
open Dice Arr AgainM PowW OwnL All6 All9 SumsS RolledI FracW OpenD DieW SortW PoolW DicesW GoalW ScoreM ScoreW IntsW RollW PairA GameW ScoreI VFacts GridL Rest0 Rest1 Sets2


set_option maxHeartbeats 4000000 in
theorem rest2_any (A : Option Addr) (n c : Nat) (P : Nat → Nat → Int) (k b : Int) (w : World) (h : Row w A n P) (h1 : 1 ≤ n) (hn : n ≤ 3) (hp : pooled P n) (hk : k = 1 ∨ k = 2 ∨ k = 3 ∨ k = 4 ∨ k = 5) :
    Calls Try.prog 66 #[.slice A n c, scV k b, .int .i64 2] w fun e w' => ∃ bw, e = .returned (.func (.func 97) #[] #[.pointer (some ⟨bw, 0, none⟩)]) ∧ Below w.heap.size w w' ∧
      Hid (∀ N wr, N < all6 n → Below w'.heap.size w' wr → Calls Try.prog 97 #[.int .i64 N, .pointer (some ⟨bw, 0, none⟩)] wr fun e w2 => e = .returned (.int .i64 (values n (sco n P k b) 2 N)) ∧ Below wr.heap.size wr w2) := by
  have hmf : ∀ (fn : Fn) (first cap : Array Value) (w : World), (Instr.makeFunc fn first cap).run Try.prog w = .ok (.func fn first cap) w := fun _ _ _ _ => rfl
  have hb := na (na (n0 w) (.cells #[.slice A n c] 34)) (.cells #[scV k b] 65)
  have hR := h.up hb
  have Hs := Lib.hid (fun w h => sets2_any A n c P k b w h h1 hn hp hk)
  have Hnn := Lib.hid (fun m s hm => (within_worth (within_vals hn hp k b (r := 1) (by omega)).1 (N := m) hm s).1)
  have hval : ∀ N, values n (sco n P k b) 2 N = best n (values n (sco n P k b) 1) N := fun _ => rfl
  have Hval := Lib.hid hval; clear hval
  generalize values n (sco n P k b) 1 = V at *
  clear h
  go_enter Try.func66, Try.ntmps66
  go_wp2_with fail
  refine (Hs.out _ hR).mono ?_
  rintro e w1 ⟨gw, B, v, rfl, hgw, hBw, hG, hb1⟩
  have hb2 := hb.trans (hb1.mono hb.size)
  go_wp2_with fail
  go_ret
  refine ⟨_, rfl, na hb2 _, fun N wr hN hB => ?_⟩
  have hG1 := (hG.up (na (n0 w1) (.cells #[.slice (some ⟨gw, 0, none⟩) (all6 n) (all6 n)] 78))).up hB
  have c1 := cell_one w1 (.slice (some ⟨gw, 0, none⟩) (all6 n) (all6 n)) 78
  have c2 := (hB.cell (p := ⟨w1.heap.size, 0, none⟩) (by rw [size_alloc]; exact Nat.lt_succ_self _)).trans c1
  rw [Hval.out]
  exact call1_any n B gw _ N (all6 n) V v wr hn (fun m hm s => Hnn.out m s hm) hN c2 hG1


end Rest2
end Go.Proofs.Ytppaegibhikjnaa
