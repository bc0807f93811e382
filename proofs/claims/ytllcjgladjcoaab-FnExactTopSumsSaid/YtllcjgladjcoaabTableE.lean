/-
  Contracts around the model's table, and whether two tables are the same.
-/
import Derived.Test.YtllcjgladjcoaabRows
import Derived.Test.YtllcjgladjcoaabTableS
import Derived.Test.YtllcjgladjcoaabTableI
import Derived.Test.YtllcjgladjcoaabTableW
import Derived.Test.YtllcjgladjcoaabTable
import Derived.Test.YtllcjgladjcoaabSumsW
import Derived.Test.YtllcjgladjcoaabDicesW
import Derived.Test.YtllcjgladjcoaabOpenD
import Derived.WalkKit
import Derived.WalkLawsBesides
import Derived.WalkSpells
import Derived.ProofKit
import Derived.OpenShut
import Derived.Deep.RegionWith
import Derived.Deep.WholeRow
import Derived.Deep.QuietTactic
import Derived.BigQuiet
namespace Go.Proofs.Ytllcjgladjcoaab
open Go.ChangeShapes Go.WideShapes Go.ChangeAt Go.RowKit
open Go.ChangeMaps (open_string shut_string)

namespace TableE
open Dice Arr OpenD DieW SortW DicesW PoolW FracW SumsW Table TableW TableI TableS

set_option maxRecDepth 100000 in
set_option maxHeartbeats 4000000 in
theorem specTable_any (A : Option Addr) (n c : Nat) (P : Nat → Nat → Int) (w : World) (h : Row w A n P) (hn : n ≤ maxLen) :
    Calls Try.prog 20 #[.slice A n c] w fun e w' => e = .returned (.tuple (if isPool n P then #[tv (T P n), .bool true] else #[tv fun _ => 0, .bool false])) ∧ Below w.heap.size w w' := by
  have hp := fun w h => l2Pool_any A n c P w h hn
  have hR := fresh w (b := w.heap.size) rfl
  cases hq : isPool n P
  · rw [hq] at hp
    simp only [Bool.false_eq_true, ↓reduceIte]
    have Hp := Lib.hid hp; clear hp hq
    go_enter Try.func20, Try.ntmps20
    go_wp2_with fail
    refine (Hp.out _ (h.up (na (n0 w) _))).mono ?_
    rintro e w1 ⟨rfl, hb⟩
    have hbl := nx (na (n0 w) _) hb
    have hr := hR.up hb
    obtain ⟨w2, hst, hA2, hB2, _⟩ := store_ex hr (fun _ => 0)
    have hbl2 := hbl.trans (hB2 _ (Nat.le_refl _))
    clear hb hB2
    go_wp2_with (refine b0 rfl rfl ?_)
    exact ret_cell_tmp (b := w.heap.size) (n := 121) (f := fun _ => 0) Try.results20 rfl rfl Try.underlying27 size_run hA2 rfl ⟨rfl, hbl2⟩
  · obtain ⟨h1, h4, hd⟩ := of_pool hq
    rw [hq] at hp
    simp only [↓reduceIte]
    have Hp := Lib.hid hp; clear hp hq
    have Ht := Lib.hid (fun w h => l2Table_any A n c P w h h4 hd)
    go_enter Try.func20, Try.ntmps20
    go_wp2_with fail
    refine (Hp.out _ (h.up (na (n0 w) _))).mono ?_
    rintro e w1 ⟨rfl, hb⟩
    have hbl := nx (na (n0 w) _) hb
    go_wp2_with fail
    refine (Ht.out _ (h.up hbl)).mono ?_
    rintro e w3 ⟨rfl, hb3⟩
    have hbl3 := nx hbl hb3
    have hr := (hR.up hb).up hb3
    obtain ⟨w2, hst, hA2, hB2, _⟩ := store_ex hr (T P n)
    have hbl2 := hbl3.trans (hB2 _ (Nat.le_refl _))
    clear hb hB2 hb3
    go_wp2_with fail
    exact ret_cell_tmp (b := w.heap.size) (n := 121) (f := T P n) Try.results20 rfl rfl Try.underlying27 size_run hA2 rfl ⟨rfl, hbl2⟩

set_option maxRecDepth 100000 in
set_option maxHeartbeats 4000000 in
theorem eqT_any (f : Nat → Int) (w : World) :
    Calls Try.prog 22 #[tv f, tv f] w fun e w' => e = .returned (.bool true) ∧ Below w.heap.size w w' := by
  have h1 := (tv_new w f).past (.cells (vals 121 f).toArray 27)
  have h2 := tv_new (w.alloc (.cells (vals 121 f).toArray 27)) f
  rw [size_alloc] at h2
  have hB := na (na (n0 w) (.cells (vals 121 f).toArray 27)) (.cells (vals 121 f).toArray 27)
  go_enter Try.func22, Try.ntmps22
  go_wp2_with fail
  go_loopw [5] (fun i wr => ∃ k : Nat, k ≤ 121 ∧ i = .int .i64 k ∧ Below w.heap.size w wr ∧ At wr w.heap.size 121 f ∧ At wr (w.heap.size + 1) 121 f) (fun i _ => 121 - (intOf i).toNat)
  case atStart => exact ⟨0, by omega, rfl, hB, h1, h2⟩
  case round =>
    clear hB h1 h2
    obtain ⟨k, hk, rfl, hb, hd, hg⟩ := hrel
    by_cases hlt : k < 121
    · have c1 := hd.cell k hlt
      have c2 := hg.cell k hlt
      go_wp2_with fail
      go_region
      go_wp2_with fail
      go_roundw
      case rel => exact ⟨k + 1, by omega, by go_num, hb.drew, hd.drew, hg.drew⟩
      case measure => simp [intOf]; omega
    · obtain rfl : k = 121 := by omega
      go_wp2_with fail
      go_ret
      exact ⟨rfl, hb⟩


end TableE
end Go.Proofs.Ytllcjgladjcoaab
