/-
  The greatest number of a table and its sums, in the program.
-/
import Derived.Test.YtllcjgladjcoaabRows
import Derived.Test.YtllcjgladjcoaabTopsW
import Derived.Test.YtllcjgladjcoaabShelfMax
import Derived.Test.YtllcjgladjcoaabIntsW
import Derived.Test.YtllcjgladjcoaabChanceW
import Derived.Test.YtllcjgladjcoaabTableE
import Derived.Test.YtllcjgladjcoaabTableS
import Derived.Test.YtllcjgladjcoaabTableI
import Derived.Test.YtllcjgladjcoaabTableW
import Derived.Test.YtllcjgladjcoaabTable
import Derived.Test.YtllcjgladjcoaabSumsW
import Derived.Test.YtllcjgladjcoaabCutW
import Derived.Test.YtllcjgladjcoaabDicesW
import Derived.Test.YtllcjgladjcoaabOpenD
import Derived.WalkKit
import Derived.WalkLawsBesides
import Derived.WalkSpells
import Derived.ProofKit
import Derived.OpenShut
import Derived.Deep.RegionWith
import Derived.Deep.WholeRow
import Derived.Deep.QuietTactic
import Derived.BigQuiet
namespace Go.Proofs.Ytllcjgladjcoaab
open Go.ChangeShapes Go.WideShapes Go.ChangeAt Go.RowKit
open Go.ChangeMaps (open_string shut_string)

namespace TopsI
open Dice Arr OpenD DieW SortW DicesW PoolW FracW SumsW Table TableW TableI TableS TableE CutW ChanceW IntsW TopsW

theorem tab_split (b : Bool) (f : Nat → Int) : ∃ g, (if b then #[tv f, .bool true] else #[tv fun _ => 0, .bool false] : Array Value) = #[tv g, .bool b] := by
  cases b
  · exact ⟨_, rfl⟩
  · exact ⟨_, rfl⟩
set_option maxRecDepth 100000 in
set_option maxHeartbeats 8000000 in
theorem implTop_any (A : Option Addr) (n c : Nat) (P : Nat → Nat → Int) (w : World) (h : Row w A n P) (hn : n ≤ maxLen) :
    Calls Try.prog 43 #[.slice A n c] w fun e w' => ∃ A' c', e = .returned (.tuple #[.slice A' (lenT n P) c', .int .i64 (bestT n P), .bool (isPool n P)]) ∧ Ints w.heap.size w' A' (lenT n P) (valT n P) ∧ Below w.heap.size w w' := by
  have hp := implTable_any A n c P w h hn
  clear h
  unfold lenT bestT valT
  cases hq : isPool n P
  · rw [hq] at hp
    simp only [Bool.false_eq_true, ↓reduceIte] at hp ⊢
    have Hp := Lib.hid hp; clear hp hq
    have hvf := vals_len 121 (fun _ => 0)
    go_enter Try.func43, Try.ntmps43
    go_wp2_with fail
    refine Hp.out.mono ?_
    rintro e w1 ⟨rfl, hb1⟩
    obtain ⟨w2, hst2, hA2, hB2, hK2⟩ := store_ex (fresh w1 (b := w1.heap.size) rfl) (fun _ => 0)
    have hbl2 : Below w.heap.size w w2 := (na hb1 _).trans (hB2 _ hb1.size)
    clear hB2 hK2 hA2
    go_wp2_with fail
    go_ret3
    exact ⟨_, _, rfl, .inl rfl, hbl2⟩
  · obtain ⟨_, h4, hd⟩ := of_pool hq
    rw [hq] at hp
    simp only [↓reduceIte] at hp ⊢
    have htf := tab_T h4 (die_range' hd) n (Nat.le_refl _)
    have Hpos := Lib.hid (bst_pos (f := T P n) (s := 121) (by rw [htf.sum]; exact six_pow h4))
    have Hmax := Lib.hid (max_bst htf.nn 121 120 (Nat.le_refl _))
    have Hp := Lib.hid hp; clear hp hq htf hd h4
    obtain ⟨i0, hi, hz0, hz1, hz2⟩ := info_parts info_int'
    have Hi := Lib.hid (And.intro hi (And.intro hz0 (And.intro hz1 hz2)))
    clear hi hz0 hz1 hz2
    generalize T P n = f at *
    have Hix1 := Lib.hid (fun (w : World) (k : Nat) (hk : k < 121) => run_index_vals (P := Try.prog) w 27 3 121 Try.underlying27 Try.underlying3 Try.sizeOf3 f hk)
    have Hsel : Hid (sel f 121 = flt f (bst f 121) 121) := (sel_flt f 121).trans (if_pos Hpos.out)
    rw [Hsel.out]
    have hvf := vals_len 121 f
    go_enter Try.func43, Try.ntmps43
    go_wp2_with fail
    refine Hp.out.mono ?_
    rintro e w1 ⟨rfl, hb1⟩
    obtain ⟨w2, hst2, hA2, hB2, hK2⟩ := store_ex (fresh w1 (b := w1.heap.size) rfl) f
    have hbl2 : Below w.heap.size w w2 := (na hb1 _).trans (hB2 _ hb1.size)
    clear hB2 hK2
    go_wp2_with fail
    clear hst2
    generalize w1.heap.size = q at hA2 ⊢
    have hmx := Try.slices_Max_int q 0 121 121 (zs f 121) w2 (by omega) (by rw [zs_len]; omega) (by omega) (fun j hj => by rw [zs_len] at hj; rw [Nat.zero_add, zs_get hj]; exact hA2.cell j hj)
    have HMx := Lib.hid hmx; clear hmx
    have Hm2 := Hmax.out
    have HMx2 := HMx.out
    rw [Hm2] at HMx2
    have HMx3 := Lib.hid HMx2; clear HMx2 Hm2
    refine HMx3.out.mono ?_
    rintro e w3 ⟨rfl, rfl⟩
    have hbm := bst_nn f 121
    clear HMx HMx3 Hmax Hsel Hp
    generalize hme : bst f 121 = m at *
    have Hme := Lib.hid hme; clear hme
    go_wp2_with (refine ld rfl _ rfl rfl hA2 ?_)
    clear hA2 hvf hb1
    go_loopw [8, 21] (fun v kv wr => ∃ s : Nat, s ≤ 121 ∧ kv = .int .i64 s ∧ wr.ownsRow w.heap.size 3 1 v (flt f m s).length (vl (flt f m s)) ∧ Below w.heap.size w wr) (fun _ kv _ => 121 - (intOf kv).toNat)
    case atStart => exact ⟨0, by omega, rfl, World.ownsRow_nil _ _ _ _, hbl2⟩
    case round =>
      clear hbl2
      obtain ⟨s, hs, rfl, hO, hB⟩ := hrel
      by_cases hlt : s < 121
      · have hix := fun w => Hix1.out w s hlt
        have hsl := flt_len f m s
        have hsz := hB.size
        by_cases h2 : f s = m
        · have h2d : (f s == m) = true := by simp [h2]
          have Hs : Hid (flt f m (s + 1) = flt f m s ++ [(s : Int)]) := if_pos h2
          rw [h2] at hix
          clear h2 h2d
          go_wp2_with (at_builtin; refine wpList_append_own _ rfl _ _ 47 rfl w.heap.size 3 i0 (.int .i64 0) 1 8 Try.underlying47 Hi.out.1 Hi.out.2.1 Hi.out.2.2.1 Hi.out.2.2.2 rfl (by decide) _ _ _ rfl (hO.alloc _) ⟨wr.heap.size, 0, none⟩ 1 1 [.int .i64 (s : Int)] rfl rfl ?c1 ?c2 ?c3 ?c4 ?c5 ?_)
          case c1 =>
            intro t u ht
            match t, ht with
            | 0, ht => simp at ht; subst ht; simp [Addr.add]
          case c2 => intro u hu; simp at hu; subst hu; rfl
          case c3 => unfold maxLen; omega
          case c4 => omega
          case c5 => simp; omega
          · intro v' w4 hO4 hg4 _
            have hB4 := (na hB (.cells #[.int .i64 (s : Int)] 3)).grown hg4 (by rw [size_alloc]; omega) (fun k e => (hO.lt k e).1)
            clear hg4 hO hB
            go_wp2_with fail
            go_roundw
            case rel => exact ⟨s + 1, by omega, by go_num, by rw [Hs.out, vl_snoc, List.length_append]; exact hO4, hB4⟩
            case measure => simp [intOf]; omega
        · have h2d : (f s == m) = false := by simp [h2]
          have h2e : decide (f s = m) = false := decide_eq_false h2
          have Hs : Hid (flt f m (s + 1) = flt f m s) := if_neg h2
          go_wp2_with fail
          go_roundw
          case rel => exact ⟨s + 1, by omega, by go_num, by rw [Hs.out]; exact hO, hB⟩
          case measure => simp [intOf]; omega
      · obtain rfl : s = 121 := by omega
        obtain ⟨A', c', rfl, hI⟩ := own_ints hO
        go_wp2_with fail
        go_ret3
        obtain rfl := Hme.out
        exact ⟨_, _, rfl, hI, hB⟩


end TopsI
end Go.Proofs.Ytllcjgladjcoaab
