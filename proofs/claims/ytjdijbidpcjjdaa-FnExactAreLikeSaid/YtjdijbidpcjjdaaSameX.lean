/-
  SameSums, by the program.
-/
import Derived.Test.YtjdijbidpcjjdaaRows
import Derived.Test.YtjdijbidpcjjdaaSameW
import Derived.Test.YtjdijbidpcjjdaaQuietT
import Derived.Test.YtjdijbidpcjjdaaScaleW
import Derived.Test.YtjdijbidpcjjdaaTableSM
import Derived.Test.YtjdijbidpcjjdaaTableIM
import Derived.Test.YtjdijbidpcjjdaaTableWM
import Derived.Test.YtjdijbidpcjjdaaTableM
import Derived.Test.YtjdijbidpcjjdaaSumsM
import Derived.Test.YtjdijbidpcjjdaaDicesW
import Derived.Test.YtjdijbidpcjjdaaPoolW
import Derived.Test.YtjdijbidpcjjdaaAll6
import Derived.Test.YtjdijbidpcjjdaaSortW
import Derived.Test.YtjdijbidpcjjdaaOpenD
import Derived.WalkKit
import Derived.WalkLawsBesides
import Derived.WalkSpells
import Derived.ProofKit
import Derived.OpenShut
import Derived.Deep.RegionWith
import Derived.Deep.WholeRow
import Derived.Deep.QuietTactic
import Derived.BigQuiet
namespace Go.Proofs.Ytjdijbidpcjjdaa
open Go.ChangeShapes Go.WideShapes Go.ChangeAt Go.RowKit
open Go.ChangeMaps (open_string shut_string)

namespace SameX
open Dice Arr OpenD DieW SortW DicesW PoolW SumsW Table TableW TableI TableS All6 ScaleW QuietT SameW

def okS (n m : Nat) (P Q : Nat → Nat → Int) : Bool := isPool n P && isPool m Q
def sameS (n m : Nat) (P Q : Nat → Nat → Int) : Bool := okS n m P Q && decide (agree (scaleTo (T P n) (all6 m) 121) (scaleTo (T Q m) (all6 n) 121) 121)

theorem tab_split (b : Bool) (f : Nat → Int) : ∃ g, (if b then #[tv f, .bool true] else #[tv fun _ => 0, .bool false] : Array Value) = #[tv g, .bool b] := by
  cases b
  · exact ⟨_, rfl⟩
  · exact ⟨_, rfl⟩

set_option maxRecDepth 100000 in
set_option maxHeartbeats 4000000 in
theorem implSame_any (A B : Option Addr) (n m c c' : Nat) (P Q : Nat → Nat → Int) (w : World) (h : Row w A n P) (h' : Row w B m Q) (hn : n ≤ maxLen) (hm : m ≤ maxLen) :
    Calls Try.prog 44 #[.slice A n c, .slice B m c'] w fun e w' => e = .returned (.tuple #[.bool (sameS n m P Q), .bool (okS n m P Q)]) ∧ Below w.heap.size w w' := by
  by_cases hall : isPool n P = true ∧ isPool m Q = true
  · unfold sameS okS
    rw [hall.1, hall.2]
    simp only [Bool.and_self, Bool.true_and]
    exact implSame_yes A B n m c c' P Q w h h' hn hm hall.1 hall.2
  · have hno : okS n m P Q = false := by
      unfold okS
      cases h1 : isPool n P
      · rfl
      · cases h2 : isPool m Q
        · rfl
        · exact absurd ⟨h1, h2⟩ hall
    have hsn : sameS n m P Q = false := by unfold sameS; rw [hno]; rfl
    rw [hsn, hno]
    unfold okS at hno
    have hp := fun w h => implTable_any A n c P w h hn
    have hp' := fun w h => implTable_any B m c' Q w h hm
    obtain ⟨f, hf⟩ := tab_split (isPool n P) (T P n)
    obtain ⟨g, hg⟩ := tab_split (isPool m Q) (T Q m)
    rw [hf] at hp
    rw [hg] at hp'
    generalize isPool n P = b at hp hno
    generalize isPool m Q = b' at hp' hno
    have Hp := Lib.hid hp; clear hp hf
    have Hp' := Lib.hid hp'; clear hp' hg
    have H := Lib.hid h; clear h
    have H' := Lib.hid h'; clear h'
    have hvf := vals_len 121 f
    have hvg := vals_len 121 g
    clear hall hsn hn hm
    go_enter Try.func44, Try.ntmps44
    go_wp2_with fail
    refine (Hp.out _ H.out).mono ?_
    rintro e w1 ⟨rfl, hb1⟩
    obtain ⟨w2, hst2, hA2, hB2, hK2⟩ := store_ex (fresh w1 (b := w1.heap.size) rfl) f
    have hbl2 : Below w.heap.size w w2 := (na hb1 _).trans (hB2 _ hb1.size)
    clear hB2 hK2
    go_wp2_with fail
    clear hst2
    refine (Hp'.out _ (H'.out.up hbl2)).mono ?_
    rintro e w3 ⟨rfl, hb3⟩
    obtain ⟨w4, hst4, hA4, hB4, hK4⟩ := store_ex (fresh w3 (b := w3.heap.size) rfl) g
    have hbl3 := nx hbl2 hb3
    have hbl4 : Below w.heap.size w w4 := (na hbl3 _).trans (hB4 _ hbl3.size)
    clear hb3 hB4 hK4 hA2 hb1 hbl2 hbl3
    cases b
    all_goals
      cases b'
      all_goals
        first
        | (exact absurd hno (by decide))
        | (go_wp2_with fail
           go_ret2
           exact ⟨rfl, hbl4⟩)

end SameX
end Go.Proofs.Ytjdijbidpcjjdaa
