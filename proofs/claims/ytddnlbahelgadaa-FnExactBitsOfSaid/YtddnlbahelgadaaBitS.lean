/-
  BitsOf, both sides.
-/
import Derived.Test.YtddnlbahelgadaaRows
import Derived.Test.YtddnlbahelgadaaArr
import Derived.Test.YtddnlbahelgadaaDieW
import Derived.Test.YtddnlbahelgadaaSortW
import Derived.Test.YtddnlbahelgadaaDicesW
import Derived.Test.YtddnlbahelgadaaOwnL
import Derived.Test.YtddnlbahelgadaaIntsW
import Derived.Test.YtddnlbahelgadaaIntsE
import Derived.Test.YtddnlbahelgadaaOpenI
import Derived.Test.YtddnlbahelgadaaOpenD
import Derived.Test.YtddnlbahelgadaaMadL
import Derived.Test.YtddnlbahelgadaaMadC
import Derived.Test.YtddnlbahelgadaaMadK
import Derived.Test.YtddnlbahelgadaaListK
import Derived.Test.YtddnlbahelgadaaOpenD
import Derived.WalkKit
import Derived.WalkLawsBesides
import Derived.WalkSpells
import Derived.ProofKit
import Derived.OpenShut
import Derived.Deep.RegionWith
import Derived.Deep.QuietTactic
import Derived.BigQuiet
namespace Go.Proofs.Ytddnlbahelgadaa
open Go.ChangeShapes Go.WideShapes Go.ChangeAt Go.RowKit
open Go.ChangeMaps (open_string shut_string)

namespace BitS
open Dice Arr DieW SortW OwnL OpenG OpenD MadL MadC IntsW MadK ListK

/-- The bits of the first throws. -/
def bl (f : Nat → Int) : Nat → List Int
  | 0 => []
  | k + 1 => if f k < 4 then (bl f k ++ [f k / 2]) ++ [f k % 2] else bl f k ++ [f k % 2]
theorem bl_len (f : Nat → Int) : ∀ k, (bl f k).length ≤ 2 * k
  | 0 => Nat.le_refl _
  | k + 1 => by
    have := bl_len f k
    show (if f k < 4 then (bl f k ++ [f k / 2]) ++ [f k % 2] else bl f k ++ [f k % 2]).length ≤ _
    split
    · simp; omega
    · simp; omega
def oB (n : Nat) (f : Nat → Int) : List Int := if okM 40 6 n f then bl f n else []
theorem oB_len (n : Nat) (f : Nat → Int) : (oB n f).length ≤ 1048576 := by
  unfold oB
  split
  case isTrue h =>
    have := (of_okM h).1
    have := bl_len f n
    omega
  case isFalse => exact Nat.zero_le _

set_option maxRecDepth 100000 in
set_option maxHeartbeats 4000000 in
theorem specBO_any (g n : Nat) (f : Nat → Int) (w : World) (hA : At w g n f) (hn : n ≤ 1048576) :
    Calls Try.prog 33 #[.slice (some ⟨g, 0, none⟩) n n] w fun e w' => ∃ A c, e = .returned (.tuple #[.slice A (oB n f).length c, .bool (okM 40 6 n f)]) ∧ Ints w.heap.size w' A (oB n f).length (fun i => (oB n f).getD i 0) ∧ Below w.heap.size w w' := by
  have hth := fun w hA => specThrows_any g n 40 f w hA hn (by omega)
  have hgl := hA.lt
  cases ho : okM 40 6 n f
  · rw [ho] at hth
    have Hth := Lib.hid hth; clear hth
    have e : oB n f = [] := by simp [oB, ho]
    rw [e]
    clear e ho
    have hB := na (n0 w) (.cells #[] 3)
    have hO := own_empty w
    have hA := hA.past (.cells #[] 3)
    have HA := Lib.hid hA
    go_enter Try.func33, Try.ntmps33
    go_wp2_with fail
    refine (Hth.out _ HA.out).mono ?_
    rintro e w1 ⟨rfl, hw⟩
    have hw := hw.symm
    subst hw
    go_wp2_with fail
    refine bodyPost_ret (results_tmp2 rfl _ _ _) rfl ?_
    exact ⟨_, _, rfl, ints_empty, hB⟩
  rw [ho] at hth
  have Hth := Lib.hid hth; clear hth
  have e : oB n f = bl f n := by simp [oB, ho]
  rw [e]
  clear e
  obtain ⟨h40, hf⟩ := of_okM ho
  clear ho
  have Hf := Lib.hid hf; clear hf
  have Hbl := Lib.hid (bl_len f)
  have Hst : Hid (∀ k, bl f (k + 1) = if f k < 4 then (bl f k ++ [f k / 2]) ++ [f k % 2] else bl f k ++ [f k % 2]) := fun k => rfl
  obtain ⟨i0, hi0, hz0, hz1, hz2⟩ := info_parts OwnL.info_int
  have Hi := Lib.hid (And.intro hi0 (And.intro hz0 (And.intro hz1 hz2)))
  clear hi0 hz0 hz1 hz2
  have hB := na (n0 w) (.cells #[] 3)
  have hO := own_empty w
  have hA := hA.past (.cells #[] 3)
  have HA := Lib.hid hA
  go_enter Try.func33, Try.ntmps33
  go_wp2_with fail
  refine (Hth.out _ HA.out).mono ?_
  rintro e w1 ⟨rfl, hw⟩
  have hw := hw.symm
  subst hw
  go_wp2_with fail
  go_loopw [4, 5] (fun lv kv wr => ∃ k : Nat, k ≤ n ∧ kv = .int .i64 k ∧ wr.ownsRow w.heap.size 3 1 lv (bl f k).length ((bl f k).map mk) ∧ At wr g n f ∧ Below w.heap.size w wr) (fun _ kv _ => n - (intOf kv).toNat)
  case atStart => exact ⟨0, by omega, rfl, hO, hA, hB⟩
  case round =>
    clear hO hA hB HA
    obtain ⟨k, hk, rfl, hO, hA, hB⟩ := hrel
    by_cases hlt : k < n
    · have hit : decide ((k : Int) < (n : Int)) = true := decide_eq_true (by omega)
      have hitN : decide (k < n) = true := decide_eq_true hlt
      have c1 := hA.cell k hlt
      have hfk := Hf.out k hlt
      have hst := Hst.out k
      have hlen := Hbl.out k
      obtain ⟨L, hL⟩ : ∃ L, L = bl f k := ⟨_, rfl⟩
      rw [← hL] at hO hst hlen
      clear hL
      obtain ⟨v, hv⟩ : ∃ v : Nat, f k = v := ⟨(f k).toNat, by omega⟩
      rw [hv] at c1 hst hfk
      by_cases h4 : v < 4
      · have hd : decide ((v : Int) < 4) = true := decide_eq_true (by omega)
        have hdN : decide (v < 4) = true := decide_eq_true h4
        rw [if_pos (by omega)] at hst
        have Hst1 := Lib.hid hst; clear hst
        go_wp2_with (at_builtin; refine wpList_append_own _ rfl _ _ 22 rfl (w.heap.size) 3 i0 (.int .i64 0) 1 8 Try.underlying22 Hi.out.1 Hi.out.2.1 Hi.out.2.2.1 Hi.out.2.2.2 rfl (by decide) _ _ _ rfl (hO.alloc _) ⟨wr.heap.size, 0, none⟩ 1 1 [.int .i64 ((v : Int) / 2)] rfl rfl ?c1 ?c2 ?c3 ?c4 ?c5 ?_)
        case c1 => exact news_one (cell_one _ _ _)
        case c2 => intro u hu; simp at hu; subst hu; rfl
        case c3 => unfold maxLen; omega
        case c4 => omega
        case c5 => have := hB.size; rw [size_alloc]; omega
        intro lv' wN hO4 hg4 _
        have hB4 := (na hB (.cells #[.int .i64 ((v : Int) / 2)] 3)).grown hg4 (by rw [size_alloc]; have := hB.size; omega) (fun t e => by have := (hO.lt t e).1; omega)
        have hA4 := keptA (hA.past (.cells #[.int .i64 ((v : Int) / 2)] 3)) hg4 (fun e => by have := (hO.lt _ e.symm).1; omega)
        have hO4 := own_snoc hO4
        clear hO hg4 hB hA
        have hO := hO4
        have hB := hB4
        have hA := hA4
        clear hO4 hB4 hA4
        have hlen2 : (L ++ [(v : Int) / 2]).length ≤ 2 * k + 1 := by simp; omega
        obtain ⟨L2, hL2⟩ : ∃ L2, L2 = L ++ [(v : Int) / 2] := ⟨_, rfl⟩
        rw [← hL2] at hO hlen2
        rw [← hL2] at Hst1
        clear hL2
        have c1 := hA.cell k hlt
        rw [hv] at c1
        go_wp2_with (at_builtin; refine wpList_append_own _ rfl _ _ 22 rfl (w.heap.size) 3 i0 (.int .i64 0) 1 8 Try.underlying22 Hi.out.1 Hi.out.2.1 Hi.out.2.2.1 Hi.out.2.2.2 rfl (by decide) _ _ _ rfl (hO.alloc _) ⟨wN.heap.size, 0, none⟩ 1 1 [.int .i64 ((v : Int) % 2)] rfl rfl ?c1 ?c2 ?c3 ?c4 ?c5 ?_)
        case c1 => exact news_one (cell_one _ _ _)
        case c2 => intro u hu; simp at hu; subst hu; rfl
        case c3 => unfold maxLen; omega
        case c4 => omega
        case c5 => have := hB.size; rw [size_alloc]; omega
        intro lv' wM hO4 hg4 _
        have hB4 := (na hB (.cells #[.int .i64 ((v : Int) % 2)] 3)).grown hg4 (by rw [size_alloc]; have := hB.size; omega) (fun t e => by have := (hO.lt t e).1; omega)
        have hA4 := keptA (hA.past (.cells #[.int .i64 ((v : Int) % 2)] 3)) hg4 (fun e => by have := (hO.lt _ e.symm).1; omega)
        have hO4 := own_snoc hO4
        clear hO hg4 hB hA
        go_wp2_with fail
        go_roundw
        case rel => exact ⟨k + 1, by omega, by go_num, by rw [Hst1.out]; exact hO4, hA4, hB4⟩
        case measure => simp [intOf]; omega
      · have hd : decide ((v : Int) < 4) = false := decide_eq_false (by omega)
        have hdN : decide (v < 4) = false := decide_eq_false h4
        rw [if_neg (by omega)] at hst
        have Hst1 := Lib.hid hst; clear hst
        go_wp2_with (at_builtin; refine wpList_append_own _ rfl _ _ 22 rfl (w.heap.size) 3 i0 (.int .i64 0) 1 8 Try.underlying22 Hi.out.1 Hi.out.2.1 Hi.out.2.2.1 Hi.out.2.2.2 rfl (by decide) _ _ _ rfl (hO.alloc _) ⟨wr.heap.size, 0, none⟩ 1 1 [.int .i64 ((v : Int) % 2)] rfl rfl ?c1 ?c2 ?c3 ?c4 ?c5 ?_)
        case c1 => exact news_one (cell_one _ _ _)
        case c2 => intro u hu; simp at hu; subst hu; rfl
        case c3 => unfold maxLen; omega
        case c4 => omega
        case c5 => have := hB.size; rw [size_alloc]; omega
        intro lv' wN hO4 hg4 _
        have hB4 := (na hB (.cells #[.int .i64 ((v : Int) % 2)] 3)).grown hg4 (by rw [size_alloc]; have := hB.size; omega) (fun t e => by have := (hO.lt t e).1; omega)
        have hA4 := keptA (hA.past (.cells #[.int .i64 ((v : Int) % 2)] 3)) hg4 (fun e => by have := (hO.lt _ e.symm).1; omega)
        have hO4 := own_snoc hO4
        clear hO hg4 hB hA
        go_wp2_with fail
        go_roundw
        case rel => exact ⟨k + 1, by omega, by go_num, by rw [Hst1.out]; exact hO4, hA4, hB4⟩
        case measure => simp [intOf]; omega
    · obtain rfl : k = n := by omega
      have hit : decide ((k : Int) < (k : Int)) = false := decide_eq_false (by omega)
      obtain ⟨A, c, rfl, hI⟩ := own_ints hO
      go_wp2_with fail
      refine bodyPost_ret (results_tmp2 rfl _ _ _) rfl ?_
      exact ⟨A, c, rfl, hI, hB⟩

set_option maxRecDepth 100000 in
set_option maxHeartbeats 4000000 in
theorem implBO_any (g n : Nat) (f : Nat → Int) (w : World) (hA : At w g n f) (hn : n ≤ 1048576) :
    Calls Try.prog 34 #[.slice (some ⟨g, 0, none⟩) n n] w fun e w' => ∃ A c, e = .returned (.tuple #[.slice A (oB n f).length c, .bool (okM 40 6 n f)]) ∧ Ints w.heap.size w' A (oB n f).length (fun i => (oB n f).getD i 0) ∧ Below w.heap.size w w' := by
  have hth := fun w hA => throws_any g n f w hA hn
  have hgl := hA.lt
  cases ho : okM 40 6 n f
  · rw [ho] at hth
    have Hth := Lib.hid hth; clear hth
    have e : oB n f = [] := by simp [oB, ho]
    rw [e]
    clear e ho
    have hB := n0 w
    have hO := own_nil w w.heap.size
    have HA := Lib.hid hA
    go_enter Try.func34, Try.ntmps34
    go_wp2_with fail
    refine (Hth.out _ HA.out).mono ?_
    rintro e w1 ⟨rfl, hw⟩
    have hw := hw.symm
    subst hw
    go_wp2_with fail
    refine bodyPost_ret (results_tmp2 rfl _ _ _) rfl ?_
    exact ⟨_, _, rfl, ints_empty, hB⟩
  rw [ho] at hth
  have Hth := Lib.hid hth; clear hth
  have e : oB n f = bl f n := by simp [oB, ho]
  rw [e]
  clear e
  obtain ⟨h40, hf⟩ := of_okM ho
  clear ho
  have Hf := Lib.hid hf; clear hf
  have Hbl := Lib.hid (bl_len f)
  have Hst : Hid (∀ k, bl f (k + 1) = if f k < 4 then (bl f k ++ [f k / 2]) ++ [f k % 2] else bl f k ++ [f k % 2]) := fun k => rfl
  obtain ⟨i0, hi0, hz0, hz1, hz2⟩ := info_parts OwnL.info_int
  have Hi := Lib.hid (And.intro hi0 (And.intro hz0 (And.intro hz1 hz2)))
  clear hi0 hz0 hz1 hz2
  have hB := n0 w
  have hO := own_nil w w.heap.size
  have HA := Lib.hid hA
  go_enter Try.func34, Try.ntmps34
  go_wp2_with fail
  refine (Hth.out _ HA.out).mono ?_
  rintro e w1 ⟨rfl, hw⟩
  have hw := hw.symm
  subst hw
  go_wp2_with fail
  go_loopw [4, 12] (fun lv kv wr => ∃ k : Nat, k ≤ n ∧ kv = .int .i64 k ∧ wr.ownsRow w.heap.size 3 1 lv (bl f k).length ((bl f k).map mk) ∧ At wr g n f ∧ Below w.heap.size w wr) (fun _ kv _ => n - (intOf kv).toNat)
  case atStart => exact ⟨0, by omega, rfl, hO, hA, hB⟩
  case round =>
    clear hO hA hB HA
    obtain ⟨k, hk, rfl, hO, hA, hB⟩ := hrel
    by_cases hlt : k < n
    · have hit : decide ((k : Int) < (n : Int)) = true := decide_eq_true (by omega)
      have hitN : decide (k < n) = true := decide_eq_true hlt
      have c1 := hA.cell k hlt
      have hfk := Hf.out k hlt
      have hst := Hst.out k
      have hlen := Hbl.out k
      obtain ⟨L, hL⟩ : ∃ L, L = bl f k := ⟨_, rfl⟩
      rw [← hL] at hO hst hlen
      clear hL
      obtain ⟨v, hv⟩ : ∃ v : Nat, f k = v := ⟨(f k).toNat, by omega⟩
      rw [hv] at c1 hst hfk
      by_cases h4 : v < 4
      · have hd : decide ((v : Int) < 4) = true := decide_eq_true (by omega)
        have hdN : decide (v < 4) = true := decide_eq_true h4
        rw [if_pos (by omega)] at hst
        have Hst1 := Lib.hid hst; clear hst
        go_wp2_with (at_builtin; refine wpList_append_own _ rfl _ _ 22 rfl (w.heap.size) 3 i0 (.int .i64 0) 1 8 Try.underlying22 Hi.out.1 Hi.out.2.1 Hi.out.2.2.1 Hi.out.2.2.2 rfl (by decide) _ _ _ rfl (hO.alloc _) ⟨wr.heap.size, 0, none⟩ 1 1 [.int .i64 ((v : Int) / 2)] rfl rfl ?c1 ?c2 ?c3 ?c4 ?c5 ?_)
        case c1 => exact news_one (cell_one _ _ _)
        case c2 => intro u hu; simp at hu; subst hu; rfl
        case c3 => unfold maxLen; omega
        case c4 => omega
        case c5 => have := hB.size; rw [size_alloc]; omega
        intro lv' wN hO4 hg4 _
        have hB4 := (na hB (.cells #[.int .i64 ((v : Int) / 2)] 3)).grown hg4 (by rw [size_alloc]; have := hB.size; omega) (fun t e => by have := (hO.lt t e).1; omega)
        have hA4 := keptA (hA.past (.cells #[.int .i64 ((v : Int) / 2)] 3)) hg4 (fun e => by have := (hO.lt _ e.symm).1; omega)
        have hO4 := own_snoc hO4
        clear hO hg4 hB hA
        have hO := hO4
        have hB := hB4
        have hA := hA4
        clear hO4 hB4 hA4
        have hlen2 : (L ++ [(v : Int) / 2]).length ≤ 2 * k + 1 := by simp; omega
        obtain ⟨L2, hL2⟩ : ∃ L2, L2 = L ++ [(v : Int) / 2] := ⟨_, rfl⟩
        rw [← hL2] at hO hlen2
        rw [← hL2] at Hst1
        clear hL2
        go_wp2_with (at_builtin; refine wpList_append_own _ rfl _ _ 22 rfl (w.heap.size) 3 i0 (.int .i64 0) 1 8 Try.underlying22 Hi.out.1 Hi.out.2.1 Hi.out.2.2.1 Hi.out.2.2.2 rfl (by decide) _ _ _ rfl (hO.alloc _) ⟨wN.heap.size, 0, none⟩ 1 1 [.int .i64 ((v : Int) % 2)] rfl rfl ?c1 ?c2 ?c3 ?c4 ?c5 ?_)
        case c1 => exact news_one (cell_one _ _ _)
        case c2 => intro u hu; simp at hu; subst hu; rfl
        case c3 => unfold maxLen; omega
        case c4 => omega
        case c5 => have := hB.size; rw [size_alloc]; omega
        intro lv' wM hO4 hg4 _
        have hB4 := (na hB (.cells #[.int .i64 ((v : Int) % 2)] 3)).grown hg4 (by rw [size_alloc]; have := hB.size; omega) (fun t e => by have := (hO.lt t e).1; omega)
        have hA4 := keptA (hA.past (.cells #[.int .i64 ((v : Int) % 2)] 3)) hg4 (fun e => by have := (hO.lt _ e.symm).1; omega)
        have hO4 := own_snoc hO4
        clear hO hg4 hB hA
        go_wp2_with fail
        go_roundw
        case rel => exact ⟨k + 1, by omega, by go_num, by rw [Hst1.out]; exact hO4, hA4, hB4⟩
        case measure => simp [intOf]; omega
      · have hd : decide ((v : Int) < 4) = false := decide_eq_false (by omega)
        have hdN : decide (v < 4) = false := decide_eq_false h4
        rw [if_neg (by omega)] at hst
        have Hst1 := Lib.hid hst; clear hst
        go_wp2_with (at_builtin; refine wpList_append_own _ rfl _ _ 22 rfl (w.heap.size) 3 i0 (.int .i64 0) 1 8 Try.underlying22 Hi.out.1 Hi.out.2.1 Hi.out.2.2.1 Hi.out.2.2.2 rfl (by decide) _ _ _ rfl (hO.alloc _) ⟨wr.heap.size, 0, none⟩ 1 1 [.int .i64 ((v : Int) % 2)] rfl rfl ?c1 ?c2 ?c3 ?c4 ?c5 ?_)
        case c1 => exact news_one (cell_one _ _ _)
        case c2 => intro u hu; simp at hu; subst hu; rfl
        case c3 => unfold maxLen; omega
        case c4 => omega
        case c5 => have := hB.size; rw [size_alloc]; omega
        intro lv' wN hO4 hg4 _
        have hB4 := (na hB (.cells #[.int .i64 ((v : Int) % 2)] 3)).grown hg4 (by rw [size_alloc]; have := hB.size; omega) (fun t e => by have := (hO.lt t e).1; omega)
        have hA4 := keptA (hA.past (.cells #[.int .i64 ((v : Int) % 2)] 3)) hg4 (fun e => by have := (hO.lt _ e.symm).1; omega)
        have hO4 := own_snoc hO4
        clear hO hg4 hB hA
        go_wp2_with fail
        go_roundw
        case rel => exact ⟨k + 1, by omega, by go_num, by rw [Hst1.out]; exact hO4, hA4, hB4⟩
        case measure => simp [intOf]; omega
    · obtain rfl : k = n := by omega
      have hit : decide ((k : Int) < (k : Int)) = false := decide_eq_false (by omega)
      obtain ⟨A, c, rfl, hI⟩ := own_ints hO
      go_wp2_with fail
      refine bodyPost_ret (results_tmp2 rfl _ _ _) rfl ?_
      exact ⟨A, c, rfl, hI, hB⟩


end BitS
end Go.Proofs.Ytddnlbahelgadaa
