/-
  Whether a row is a ring, in the program.
-/
import Derived.Test.YtagieilahejobaaRows
import Derived.Test.YtagieilahejobaaRingS
import Derived.Test.YtagieilahejobaaManyI
import Derived.Test.YtagieilahejobaaManyS
import Derived.Test.YtagieilahejobaaBeatI
import Derived.Test.YtagieilahejobaaIntsW
import Derived.Test.YtagieilahejobaaSafeI
import Derived.Test.YtagieilahejobaaSafeS
import Derived.Test.YtagieilahejobaaRowW
import Derived.Test.YtagieilahejobaaRowsL
import Derived.Test.YtagieilahejobaaQuietR
import Derived.Test.YtagieilahejobaaQuietD
import Derived.Test.YtagieilahejobaaBestI
import Derived.Test.YtagieilahejobaaBestS
import Derived.Test.YtagieilahejobaaShelfMax
import Derived.Test.YtagieilahejobaaTopW
import Derived.Test.YtagieilahejobaaManyW
import Derived.Test.YtagieilahejobaaDicesW
import Derived.Test.YtagieilahejobaaWaysW
import Derived.Test.YtagieilahejobaaKnow
import Derived.Test.YtagieilahejobaaCmpW
import Derived.Test.YtagieilahejobaaCompW
import Derived.Test.YtagieilahejobaaCompS
import Derived.Test.YtagieilahejobaaDuel
import Derived.Test.YtagieilahejobaaDieW
import Derived.Test.YtagieilahejobaaSortW
import Derived.Test.YtagieilahejobaaOpenD
import Derived.WalkKit
import Derived.WalkLawsBesides
import Derived.WalkSpells
import Derived.ProofKit
import Derived.OpenShut
import Derived.Deep.RegionWith
import Derived.Deep.QuietTactic
import Derived.BigQuiet
namespace Go.Proofs.Ytagieilahejobaa
open Go.ChangeShapes Go.WideShapes Go.ChangeAt Go.RowKit
open Go.ChangeMaps (open_string shut_string)

namespace RingI
open Dice Arr OpenD DieW SortW Duel CmpW Know WaysW CompS CompW ManyW QuietD QuietR TopW DicesW BestS BestI RowsL RowW SafeS SafeI BeatI IntsW ManyS ManyI RingS

set_option maxRecDepth 100000 in
set_option maxHeartbeats 8000000 in
theorem implRing_any (A : Option Addr) (n c : Nat) (P : Nat → Nat → Int) (w : World) (h : Row w A n P) (hn : n ≤ maxLen) :
    Calls Try.prog 32 #[.slice A n c] w fun e w' => e = .returned (.tuple (outR n P)) ∧ Below w.heap.size w w' := by
  have hr := beatTable_any A n c P w h hn
  clear h
  unfold outR
  cases hq : many 6 n P
  · rw [hq] at hr
    simp only [Bool.false_eq_true, ↓reduceIte]
    have Hr := Lib.hid hr; clear hr hq
    go_enter Try.func32, Try.ntmps32
    go_wp2_with fail
    refine Hr.out.mono ?_
    rintro e w1 ⟨v, rfl, hb1, _, _⟩
    go_wp2_with fail
    go_ret2
    exact ⟨rfl, hb1⟩
  · obtain ⟨h1, h6, _⟩ := of_many hq
    rw [hq] at hr
    simp only [↓reduceIte]
    have Hr := Lib.hid hr; clear hr hq
    go_enter Try.func32, Try.ntmps32
    go_wp2_with fail
    refine Hr.out.mono ?_
    rintro e w1 ⟨v, rfl, hB1, hrows, _⟩
    obtain ⟨gr, cr, hR⟩ := hrows trivial
    obtain ⟨g, cg, rfl, hg, hgl, hgc⟩ := hR.head h1
    have Hgc := Lib.hid hgc; clear hgc
    have HR := Lib.hid hR; clear hR hrows
    clear Hr
    go_wp2_with fail
    go_loopw [17] (fun kv wr => ∃ k : Nat, k ≤ n ∧ kv = .int .i64 k ∧ Hid (ringed P n k) ∧ wr = w1) (fun kv _ => n - (intOf kv).toNat)
    case atStart => exact ⟨0, by omega, rfl, fun j hj => by omega, rfl⟩
    case round =>
      obtain ⟨i, hi, rfl, hgd, rfl⟩ := hrel
      by_cases hlt : i < n
      · have hit : decide (i < n) = true := decide_eq_true hlt
        have ci := Hgc.out i hlt
        obtain ⟨t, ht0⟩ : ∃ t, t = (i + 1) % n := ⟨_, rfl⟩
        have ht : t < n := by rw [ht0]; exact Nat.mod_lt _ h1
        have hm1 : ((i : Int) + 1) % (n : Int) = (t : Int) := by rw [ht0]; rfl
        have hm2 : ((i : Int) + 1).tmod (n : Int) = (t : Int) := by rw [ht0]; rfl
        have c0 := (HR.out.cell hlt (show t < n * 1 by omega)).trans (iv_get ht)
        have hn0 : ((n : Int) = 0) = False := by simp; omega
        have hsg : (sg P i t == 1) = beats (P i) (P t) := sg_beats P i t
        cases hbt : beats (P i) (P t)
        · have hno : Hid (decide (ringed P n n) = false) := ring_no hlt (ht0 ▸ hbt)
          rw [hbt] at hsg
          have hsn : (sg P i t != 1) = true := by unfold bne; rw [hsg]; rfl
          clear hbt ht0
          go_wp2_with fail
          go_ret2
          exact ⟨by rw [hno.out]; rfl, hB1⟩
        · have hyes : Hid (ringed P n (i + 1)) := ring_next hgd.out (ht0 ▸ hbt)
          rw [hbt] at hsg
          have hsn : (sg P i t != 1) = false := by unfold bne; rw [hsg]; rfl
          clear hbt ht0
          go_wp2_with fail
          go_roundw
          case rel => exact ⟨i + 1, by omega, by go_num, hyes, by first | rfl | trivial⟩
          case measure => simp [intOf]; omega
      · obtain rfl : i = n := by omega
        have hyes : Hid (decide (ringed P i i) = true) := decide_eq_true hgd.out
        go_wp2_with fail
        go_ret2
        exact ⟨by rw [hyes.out]; rfl, hB1⟩


end RingI
end Go.Proofs.Ytagieilahejobaa
