/-
  The rest of a game without a reroll, by the program.
-/
import Derived.Test.YtppaegibhikjnaaRows
import Derived.Test.YtppaegibhikjnaaVFacts
import Derived.Test.YtppaegibhikjnaaAgainM
import Derived.Test.YtppaegibhikjnaaPowW
import Derived.Test.YtppaegibhikjnaaOwnL
import Derived.Test.YtppaegibhikjnaaAll6
import Derived.Test.YtppaegibhikjnaaAll9
import Derived.Test.YtppaegibhikjnaaSumsS
import Derived.Test.YtppaegibhikjnaaRolledI
import Derived.Test.YtppaegibhikjnaaArr
import Derived.Test.YtppaegibhikjnaaDieW
import Derived.Test.YtppaegibhikjnaaFracW
import Derived.Test.YtppaegibhikjnaaSortW
import Derived.Test.YtppaegibhikjnaaDicesW
import Derived.Test.YtppaegibhikjnaaPoolW
import Derived.Test.YtppaegibhikjnaaGoalW
import Derived.Test.YtppaegibhikjnaaScoreM
import Derived.Test.YtppaegibhikjnaaScoreW
import Derived.Test.YtppaegibhikjnaaIntsW
import Derived.Test.YtppaegibhikjnaaRollN
import Derived.Test.YtppaegibhikjnaaPairA
import Derived.Test.YtppaegibhikjnaaGameW
import Derived.Test.YtppaegibhikjnaaScoreI
import Derived.Test.YtppaegibhikjnaaGridL
import Derived.Test.YtppaegibhikjnaaOpenD
import Derived.WalkKit
import Derived.Deep.WholeRow
import Derived.Deep.AppendLies
import Derived.FnLit
import Derived.WalkLawsBesides
import Derived.WalkSpells
import Derived.ProofKit
import Derived.OpenShut
import Derived.Deep.RegionWith
import Derived.Deep.QuietTactic
import Derived.BigQuiet
namespace Go.Proofs.Ytppaegibhikjnaa
open Go.ChangeShapes Go.WideShapes Go.ChangeAt Go.RowKit
open Go.ChangeMaps (open_string shut_string)

namespace Rest0
open Dice Arr AgainM PowW OwnL All6 All9 SumsS RolledI FracW OpenD DieW SortW PoolW DicesW GoalW ScoreM ScoreW IntsW RollW PairA GameW ScoreI VFacts GridL


abbrev scV (k b : Int) : Value := .func (.func 58) #[v2 k b] #[]
theorem rolledV_any (n : Nat) (P : Nat → Nat → Int) (k b : Int) (hn : n ≤ 3) (h1 : 1 ≤ n) (hp : pooled P n) (i : Nat) (hi : i ≤ 2) (s : Nat) (hs : s < 8) (g c : Nat) (w : World) (h : At w g (all6 n) (values n (sco n P k b) i)) :
    Calls Try.prog 106 #[.slice (some ⟨g, 0, none⟩) (all6 n) c, .int .i64 n, .int .i64 s] w fun e w' => ∃ g' c', e = .returned (.slice (some ⟨g', 0, none⟩) (all6 n) c') ∧ w.heap.size ≤ g' ∧ At w' g' (all6 n) (sums n s (values n (sco n P k b) i) n) ∧ Below w.heap.size w w' := by
  have v := within_vals hn hp k b hi
  generalize 6 ^ (n * i) * 90 = B at v
  exact rolled_any n s (all6 n) B g c _ w hn h1 hs rfl v.1 v.2 h
set_option maxHeartbeats 4000000 in
theorem call0_any (A : Option Addr) (n c bp bs N : Nat) (P : Nat → Nat → Int) (k b : Int) (w : World) (h : Row w A n P) (h1 : 1 ≤ n) (hn : n ≤ 3) (hp : pooled P n) (hk : k = 1 ∨ k = 2 ∨ k = 3 ∨ k = 4 ∨ k = 5) (hN : N < all6 n)
    (cp : w.cell? ⟨bp, 0, none⟩ = some (.slice A n c)) (cs : w.cell? ⟨bs, 0, none⟩ = some (scV k b)) (hbs : bs < w.heap.size) :
    Calls Try.prog 95 #[.int .i64 N, .pointer (some ⟨bp, 0, none⟩), .pointer (some ⟨bs, 0, none⟩)] w fun e w' => e = .returned (.int .i64 (sco n P k b N)) ∧ Below w.heap.size w w' := by
  have hro := fun w h => implRoll_any A n c (N : Int) P w h (by unfold maxLen; omega)
  obtain ⟨e1, e2⟩ := yes_roll (n := n) (P := P) (k := (N : Int)) (pool_yes h1 (by omega) hp) ⟨by omega, by omega⟩
  rw [e1, e2, Int.toNat_natCast] at hro
  have Hro := Lib.hid hro; clear hro
  have Hsc := Lib.hid (fun g c w h => score_any k b (rollF P N n) g n c w h1 hn hk (face_ok hp N) h)
  have H := Lib.hid h; clear h
  clear hp hk e1 e2 hN
  go_enter Try.func95, Try.ntmps95
  go_wp2_with fail
  refine (Hro.out _ H.out).mono ?_
  rintro e w1 ⟨A', c', rfl, hI, hb⟩
  obtain ⟨g, rfl, _, hA⟩ := hI.at_ (show 0 < n by omega)
  have cs1 := (hb.cell (p := ⟨bs, 0, none⟩) hbs).trans cs
  go_wp2_with fail
  refine (Hsc.out _ _ _ hA).mono ?_
  rintro e w2 ⟨rfl, hb2⟩
  go_wp2_with fail
  go_ret
  exact ⟨rfl, nx hb hb2⟩
set_option maxHeartbeats 4000000 in
theorem rest0_any (A : Option Addr) (n c : Nat) (P : Nat → Nat → Int) (k b : Int) (w : World) (h : Row w A n P) (h1 : 1 ≤ n) (hn : n ≤ 3) (hp : pooled P n) (hk : k = 1 ∨ k = 2 ∨ k = 3 ∨ k = 4 ∨ k = 5) :
    Calls Try.prog 66 #[.slice A n c, scV k b, .int .i64 0] w fun e w' => ∃ bp bs, e = .returned (.func (.func 95) #[] #[.pointer (some ⟨bp, 0, none⟩), .pointer (some ⟨bs, 0, none⟩)]) ∧ Below w.heap.size w w' ∧
      Hid (∀ N wr, N < all6 n → Below w'.heap.size w' wr → Calls Try.prog 95 #[.int .i64 N, .pointer (some ⟨bp, 0, none⟩), .pointer (some ⟨bs, 0, none⟩)] wr fun e w2 => e = .returned (.int .i64 (values n (sco n P k b) 0 N)) ∧ Below wr.heap.size wr w2) := by
  have hmf : ∀ (fn : Fn) (first cap : Array Value) (w : World), (Instr.makeFunc fn first cap).run Try.prog w = .ok (.func fn first cap) w := fun _ _ _ _ => rfl
  have hb := na (na (n0 w) (.cells #[.slice A n c] 34)) (.cells #[scV k b] 65)
  have cp : ((w.alloc (.cells #[.slice A n c] 34)).alloc (.cells #[scV k b] 65)).cell? ⟨w.heap.size, 0, none⟩ = some (.slice A n c) :=
    ((n0 (w.alloc (.cells #[.slice A n c] 34))).alloc (Nat.le_refl _) (.cells #[scV k b] 65) |>.cell (p := ⟨w.heap.size, 0, none⟩) (by rw [size_alloc]; exact Nat.lt_succ_self _)).trans (cell_one _ _ _)
  have cs : ((w.alloc (.cells #[.slice A n c] 34)).alloc (.cells #[scV k b] 65)).cell? ⟨w.heap.size + 1, 0, none⟩ = some (scV k b) := by
    have := cell_one (w.alloc (.cells #[.slice A n c] 34)) (scV k b) 65
    rw [size_alloc] at this
    exact this
  have hsz : ((w.alloc (.cells #[.slice A n c] 34)).alloc (.cells #[scV k b] 65)).heap.size = w.heap.size + 2 := by rw [size_alloc, size_alloc]
  have hR := h.up hb
  have HH := Lib.hid (And.intro hR (And.intro cp (And.intro cs hsz)))
  clear h cp cs hR
  go_enter Try.func66, Try.ntmps66
  go_wp2_with fail
  go_ret
  refine ⟨_, _, rfl, hb, fun N wr hN hB => ?_⟩
  obtain ⟨hR, cp, cs, hs⟩ := HH.out
  exact call0_any A n c _ _ N P k b wr (hR.up hB) h1 hn hp hk hN ((hB.cell (p := ⟨w.heap.size, 0, none⟩) (by rw [hs]; show w.heap.size < _; omega)).trans cp) ((hB.cell (p := ⟨w.heap.size + 1, 0, none⟩) (by rw [hs]; show w.heap.size + 1 < _; omega)).trans cs) (by have := hB.size; omega)


end Rest0
end Go.Proofs.Ytppaegibhikjnaa
