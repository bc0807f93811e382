/-
  The draws of chapter 4's bounds.
-/
import Derived.Test.YtbcaahaaaodhkaaRows
import Derived.Test.YtbcaahaaaodhkaaDrawH
import Derived.Test.YtbcaahaaaodhkaaPoolD
import Derived.Test.YtbcaahaaaodhkaaDieD
import Derived.Test.YtbcaahaaaodhkaaCurN
import Derived.Test.YtbcaahaaaodhkaaBubW
import Derived.Test.YtbcaahaaaodhkaaDicesW
import Derived.Test.YtbcaahaaaodhkaaSortW
import Derived.Test.YtbcaahaaaodhkaaDieW
import Derived.Test.YtbcaahaaaodhkaaOpenD
import Derived.WalkKit
import Derived.WalkLawsBesides
import Derived.WalkSpells
import Derived.ProofKit
import Derived.OpenShut
import Derived.Deep.RegionWith
import Derived.Deep.QuietTactic
import Derived.BigQuiet
namespace Go.Proofs.Ytbcaahaaaodhkaa
open Go.ChangeShapes Go.WideShapes Go.ChangeAt Go.RowKit
open Go.ChangeMaps (open_string shut_string)

namespace DrawB
open Dice Arr OpenD DieW SortW DicesW CurN BubW DieD PoolD DrawH

def bottoms : List Int := [2, 3, 6, 100, 1, 1000, 0, 1001]
def ks : List Int := [1, 2, 1, 3, 4, 0, 5]
theorem bottoms_most {q : Int} (h : q ∈ bottoms) : ∃ r : Nat, 0 < r ∧ r ≤ 1001 ∧ max q 1 = r := by
  simp only [bottoms, List.mem_cons, List.not_mem_nil, or_false] at h
  exact ⟨(max q 1).toNat, by omega, by omega, by omega⟩
theorem most_any2 (a b : Int) (w : World) :
    Calls Try.prog 80 #[.int .i64 a, .int .i64 b] w fun e w' => e = .returned (.int .i64 (max a b)) ∧ w' = w := by
  by_cases h : a > b
  · rw [show max a b = a by omega]
    go_enter Try.func80, Try.ntmps80
    go_wp2
    go_ret
    exact ⟨rfl, rfl⟩
  · rw [show max a b = b by omega]
    go_enter Try.func80, Try.ntmps80
    go_wp2
    go_ret
    exact ⟨rfl, rfl⟩
theorem results_tmp4 {fn : Func} {t u v x : Tmp} (h : fn.results = #[.tmp t, .tmp u, .tmp v, .tmp x]) (tmps : Array Value) (P : Program) (w : World) :
    (results fn tmps).run P w = .ok (.tuple #[tmps.getD t undef, tmps.getD u undef, tmps.getD v undef, tmps.getD x undef]) w := by
  simp [results, h]

set_option maxRecDepth 20000 in
set_option maxHeartbeats 8000000 in
theorem drawBound_any (A : Option Addr) (n c : Nat) (w : World) (h : CurN.Code w w.heap.size A n) (hn : n ≤ maxLen) :
    Calls Try.prog 31 #[.slice A n c] w fun e w' => (∃ A' n' c' P k t m, e = .returned (.tuple #[.slice A' n' c', .int .i64 k, .int .i64 t, .int .i64 m]) ∧ n' ≤ 5 ∧ n' ≤ c' ∧ c' ≤ maxLen ∧ Row w' A' n' P) ∧ Below w.heap.size w w' := by
  have hcur := cur_made w A n c 84 h
  have Hp := Lib.hid fun K (k : Nat) w' (hc : Cur w' w.heap.size K A n c) hK h0 hk => pick_any w.heap.size K A n c k w' hc hK hn h0 hk
  have Hq := Lib.hid fun K w' (hc : Cur w' w.heap.size K A n c) hK => pool_any w.heap.size K A n c w' hc hK hn
  have Ha := Lib.hid fun K g cp zs w' (hc : Cur w' w.heap.size K A n c) hK h0 hk hg ht => among_any w.heap.size K A n c g cp zs w' hc hK hn h0 hk hg ht
  have hU := But.of_below (p := w.heap.size) (na (n0 w) (.cells #[.slice A n c, .int .i64 0, .int .u64 0] 84))
  have hC := hcur
  clear h hcur
  go_enter Try.func31, Try.ntmps31
  have hns := NsB.made (w.alloc (.cells #[.slice A n c, .int .i64 0, .int .u64 0] 84)) bottoms 3
  have hal : Below (w.alloc (.cells #[.slice A n c, .int .i64 0, .int .u64 0] 84)).heap.size (w.alloc (.cells #[.slice A n c, .int .i64 0, .int .u64 0] 84)) ((w.alloc (.cells #[.slice A n c, .int .i64 0, .int .u64 0] 84)).alloc (.cells (bottoms.map fun z => Value.int .i64 z).toArray 3)) := na (n0 _) _
  have hpl := hC.1
  have hC := hC.below hal
  have hU := hU.trans (But.of_below hal)
  go_wp2_with fail
  refine (Hp.out 0 24 _ hC (by omega) (by decide) (by decide)).mono ?_
  rintro e w2 ⟨⟨m, hm, rfl⟩, hw⟩
  have hns := hns.but (Nat.ne_of_gt hpl) hw.2
  have hU := hU.trans hw.2
  have hC := hw.1
  clear hw hal
  have hm2 : m / 11 ≤ 2 := by omega
  have hq : Int.tdiv (m : Int) 11 = ((m / 11 : Nat) : Int) := rfl
  obtain ⟨q, hqq⟩ : ∃ q, q = m / 11 := ⟨_, rfl⟩
  rw [← hqq] at hq hm2
  clear hqq
  have hlen : (bottoms.take (6 + q)).length = 6 + q := by rw [List.length_take]; show min (6 + q) 8 = _; omega
  have ha := Ha.out (0 + 2) (w.alloc (.cells #[.slice A n c, .int .i64 0, .int .u64 0] 84)).heap.size 8 (bottoms.take (6 + q)) w2 hC (by omega) (by rw [hlen]; omega) (by rw [hlen]; omega) (Nat.ne_of_gt hpl) (NsB.part hns _)
  rw [hlen, size_alloc] at ha
  have hA0 := Lib.hid ha
  clear ha hlen hns
  go_wp2_with fail
  refine hA0.out.mono ?_
  rintro e w3 ⟨⟨bo, hin, rfl⟩, hw⟩
  have hU := hU.trans hw.2
  have hC := hw.1
  clear hw hA0 hq hm2 hm hpl
  obtain ⟨bm, hbm0, hbm1, hbm⟩ := bottoms_most (List.mem_of_mem_take hin)
  clear hin
  have Hmo := Lib.hid (fun w => most_any2 bo 1 w)
  rw [hbm] at Hmo
  clear hbm
  go_wp2_with fail
  refine (Hq.out (0 + 2 + 2) _ hC (by omega)).mono ?_
  rintro e w4 ⟨⟨A1, n1, c1, P, rfl, h5, hc1, hc2, hR, hA⟩, hw⟩
  have hAB : ∀ b o s, A1 = some ⟨b, o, s⟩ → w.heap.size + 1 ≤ b := fun b o s e => by have := hA b o s e; have := hC.1; omega
  have hA : ∀ b o s, A1 = some ⟨b, o, s⟩ → b ≠ w.heap.size := fun b o s e => by have := hAB b o s e; omega
  have hU := hU.trans hw.2
  have hC := hw.1
  clear hw
  have hns := NsB.made w4 ks 3
  have hal : Below w4.heap.size w4 (w4.alloc (.cells (ks.map fun z => Value.int .i64 z).toArray 3)) := na (n0 _) _
  have hR := Row.up hR hal
  have hpl := hC.1
  have hC := hC.below hal
  have hU := hU.trans (But.of_below hal)
  go_wp2_with fail
  refine (Hp.out (0 + 2 + 2 + 200) 24 _ hC (by omega) (by decide) (by decide)).mono ?_
  rintro e w5 ⟨⟨m, hm, rfl⟩, hw⟩
  have hns := hns.but (Nat.ne_of_gt hpl) hw.2
  have hR := Row.but hR hA hw.2
  have hU := hU.trans hw.2
  have hC := hw.1
  clear hw hal
  have hm2 : m / 11 ≤ 2 := by omega
  have hq : Int.tdiv (m : Int) 11 = ((m / 11 : Nat) : Int) := rfl
  obtain ⟨q, hqq⟩ : ∃ q, q = m / 11 := ⟨_, rfl⟩
  rw [← hqq] at hq hm2
  clear hqq
  have hlen : (ks.take (5 + q)).length = 5 + q := by rw [List.length_take]; show min (5 + q) 7 = _; omega
  have ha := Ha.out ((0 + 2 + 2 + 200) + 2) w4.heap.size 7 (ks.take (5 + q)) w5 hC (by omega) (by rw [hlen]; omega) (by rw [hlen]; omega) (Nat.ne_of_gt hpl) (NsB.part hns _)
  rw [hlen] at ha
  have hA0 := Lib.hid ha
  clear ha hlen hns
  go_wp2_with fail
  refine hA0.out.mono ?_
  rintro e w6 ⟨⟨k, hin, rfl⟩, hw⟩
  have hR := Row.but hR hA hw.2
  have hU := hU.trans hw.2
  have hC := hw.1
  clear hw hA0 hq hm2 hm hpl
  clear hin
  go_wp2_with fail
  refine (Hmo.out _).mono ?_
  rintro e w7 ⟨rfl, hw7⟩
  have hw7 := hw7.symm
  subst hw7
  go_wp2_with fail
  refine (Hp.out (0 + 2 + 2 + 200 + 2 + 2) bm _ hC (by omega) (by omega) (by omega)).mono ?_
  rintro e w8 ⟨⟨x, hx, rfl⟩, hw⟩
  have hR := Row.but hR hA hw.2
  have hU := hU.trans hw.2
  have hC := hw.1
  clear hw
  go_wp2_with fail
  refine (Hp.out (0 + 2 + 2 + 200 + 2 + 2 + 2) 24 _ hC (by omega) (by decide) (by decide)).mono ?_
  rintro e w9 ⟨⟨y, hy, rfl⟩, hw⟩
  have hR := Row.but hR hA hw.2
  have hU := hU.trans hw.2
  have hC := hw.1
  clear hw
  go_wp2_with fail
  try simp only [Exit.inBlock, Exit.then]
  refine bodyPost_ret (results_tmp4 rfl _ _ _) rfl ?_
  exact ⟨⟨_, _, _, P, k, _, bo, rfl, h5, hc1, hc2, hR⟩, hU.below (Nat.le_refl _) (Nat.le_refl _)⟩


end DrawB
end Go.Proofs.Ytbcaahaaaodhkaa
