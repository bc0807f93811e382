/-
  Paths put together.
-/
import Derived.Test.YtagieilahejobaaRows
import Derived.Test.YtagieilahejobaaRingsS
import Derived.Test.YtagieilahejobaaRagL
import Derived.Test.YtagieilahejobaaRingW
import Derived.Test.YtagieilahejobaaRingM
import Derived.Test.YtagieilahejobaaPairsW
import Derived.Test.YtagieilahejobaaGridW
import Derived.Test.YtagieilahejobaaTableS2
import Derived.Test.YtagieilahejobaaRingI
import Derived.Test.YtagieilahejobaaRingS
import Derived.Test.YtagieilahejobaaManyI
import Derived.Test.YtagieilahejobaaManyS
import Derived.Test.YtagieilahejobaaAnyR
import Derived.Test.YtagieilahejobaaBeatI
import Derived.Test.YtagieilahejobaaIntsW
import Derived.Test.YtagieilahejobaaSafeI
import Derived.Test.YtagieilahejobaaSafeS
import Derived.Test.YtagieilahejobaaRowW
import Derived.Test.YtagieilahejobaaRowsL
import Derived.Test.YtagieilahejobaaQuietR
import Derived.Test.YtagieilahejobaaQuietD
import Derived.Test.YtagieilahejobaaBestI
import Derived.Test.YtagieilahejobaaBestS
import Derived.Test.YtagieilahejobaaShelfMax
import Derived.Test.YtagieilahejobaaTopW
import Derived.Test.YtagieilahejobaaManyW
import Derived.Test.YtagieilahejobaaDicesW
import Derived.Test.YtagieilahejobaaWaysW
import Derived.Test.YtagieilahejobaaKnow
import Derived.Test.YtagieilahejobaaCmpW
import Derived.Test.YtagieilahejobaaCompW
import Derived.Test.YtagieilahejobaaCompS
import Derived.Test.YtagieilahejobaaDuel
import Derived.Test.YtagieilahejobaaDieW
import Derived.Test.YtagieilahejobaaSortW
import Derived.Test.YtagieilahejobaaOpenD
import Derived.WalkKit
import Derived.WalkLawsBesides
import Derived.WalkSpells
import Derived.ProofKit
import Derived.OpenShut
import Derived.Deep.RegionWith
import Derived.Deep.QuietTactic
import Derived.BigQuiet
import Derived.Lib.AppendZeros
namespace Go.Proofs.Ytagieilahejobaa
open Go.ChangeShapes Go.WideShapes Go.ChangeAt Go.RowKit
open Go.ChangeMaps (open_string shut_string)

namespace RingC
open Dice Arr OpenD DieW SortW Duel CmpW Know WaysW CompS CompW ManyW QuietD QuietR TopW DicesW BestS BestI RowsL RowW SafeS SafeI BeatI IntsW ManyS ManyI RingS RingI AnyR TableS2 GridW PairsW RingM RingW RagL RingsS

set_option maxHeartbeats 4000000 in
/-- Room for n numbers. -/
theorem grow_any (n : Nat) (w : World) (h0 : 0 < n) (hn : n ≤ 1000) :
    Calls Try.prog 79 #[.slice none 0 0, .int .i64 n] w fun e w' => ∃ c, e = .returned (.slice (some ⟨w.heap.size, 0, none⟩) 0 c) ∧ PathAt w.heap.size w' (.slice (some ⟨w.heap.size, 0, none⟩) 0 c) [] ∧ Below w.heap.size w w' := by
  obtain ⟨i0, hi, hz0, hz1, hz2⟩ := info_parts info_int
  have hr := fun (w : World) => Lib.run_append_nil_zeros (P := Try.prog) w 51 3 51 3 i0 (.int .i64 0) .i64 .i64 Try.underlying51 Try.underlying3 hi hz0 n h0 (by rw [hz1]; decide) (by omega) (by rw [hz2]; omega)
  have Hr := Lib.hid hr; clear hr hi hz0 hz1 hz2
  have hnz : decide ((0 : Int) < (n : Int)) = true := decide_eq_true (by omega)
  go_enter Try.func79, Try.ntmps79
  go_wp2_with (at_builtin; refine Lib.wpList_append_run _ rfl _ _ _ _ rfl _ _ rfl rfl _ _ (Hr.out _) ?_)
  go_ret
  have hge' := grownCap_ge w n 0 3
  have hO : (w.alloc (.cells (Builtin.zeroCells #[Value.int .i64 0] n ++ Builtin.zeroCells #[Value.int .i64 0] (grownCap w n 0 3 - n)) 3)).ownsRow w.heap.size 3 1 (.slice (some ⟨w.heap.size, 0, none⟩) 0 (grownCap w n 0 3)) 0 [] :=
    World.ownsRow_made w _ _ (Nat.le_refl _) (grownCap_le_maxLen w n 0 3 (by unfold maxLen; omega)) (by rw [Array.size_append, size_zeroCells, size_zeroCells]; show n * 1 + _ * 1 = _ * 1; omega)
  exact ⟨_, rfl, World.ownsRow.kept hO (grown_of (n0 _).drew (Nat.le_refl _) none) (keep_none _), (na (n0 w) _).drew⟩

def szf (p : List Nat) (i : Nat) : Int := if i = 0 then 0 else if i = 1 then (p.length : Int) else (p.length : Int) + 1
def pre (p : List Nat) (k i : Nat) : List Nat := if i = 0 then [] else if i = 1 then p else p ++ [k]
set_option maxRecDepth 100000 in
set_option maxHeartbeats 8000000 in
/-- A path and one place. -/
theorem concat_any (B B' x g y c c1 c2 k : Nat) (p : List Nat) (w : World) (hx : x < w.heap.size) (hc0 : w.cell? ⟨x, 0, none⟩ = some (.slice (some ⟨g, 0, none⟩) p.length c1)) (hc1 : w.cell? ⟨x, 1, none⟩ = some (.slice (some ⟨y, 0, none⟩) 1 c2))
    (hP : PathAt B w (.slice (some ⟨g, 0, none⟩) p.length c1) p) (hK : PathAt B' w (.slice (some ⟨y, 0, none⟩) 1 c2) [k]) (h0 : 0 < p.length) (hl : p.length ≤ 900) :
    Calls Try.prog 74 #[.slice (some ⟨x, 0, none⟩) 2 c] w fun e w' => ∃ g' c', e = .returned (.slice (some ⟨g', 0, none⟩) (p.length + 1) c') ∧ PathAt w.heap.size w' (.slice (some ⟨g', 0, none⟩) (p.length + 1) c') (p ++ [k]) ∧ Below w.heap.size w w' := by
  obtain ⟨_, _, hv, _, hgl, _, hcg⟩ := path_form hP h0
  injection hv with hv1 _ hv2
  injection hv1 with hv1
  injection hv1 with hv1
  subst hv1 hv2
  have hyl := (World.ownsRow.lt hK y rfl).2
  have hcy : w.cell? ⟨y, 0, none⟩ = some (.int .i64 (k : Int)) := World.ownsRow.cellAt hK 0 (by decide)
  have Hcg := Lib.hid hcg; clear hcg hP hK
  have Hgr := Lib.hid (fun w => grow_any (p.length + 1) w (by omega) (by omega))
  obtain ⟨i0, hi, hz0, hz1, hz2⟩ := info_parts info_int
  have Hi := Lib.hid (And.intro hi (And.intro hz0 (And.intro hz1 hz2)))
  clear hi hz0 hz1 hz2
  have hq1 : decide ((p.length : Int) < 0) = false := decide_eq_false (by omega)
  have hq2 : decide ((p.length : Int) + 1 < 0) = false := decide_eq_false (by omega)
  go_enter Try.func74, Try.ntmps74
  go_wp2_with fail
  go_loopw [3, 11] (fun zv kv wr => ∃ (i : Nat) (z : Int), i ≤ 2 ∧ kv = .int .i64 i ∧ zv = .int .i64 z ∧ z = szf p i ∧ wr = w) (fun _ kv _ => 2 - (intOf kv).toNat)
  case atStart => exact ⟨0, 0, by omega, rfl, rfl, rfl, rfl⟩
  case round =>
    obtain ⟨i, z, hi, rfl, rfl, hz, rfl⟩ := hrel
    obtain ⟨W9, rfl⟩ : ∃ W9, W9 = wr := ⟨wr, rfl⟩
    obtain rfl | rfl | rfl : i = 0 ∨ i = 1 ∨ i = 2 := by omega
    · obtain rfl : z = 0 := hz
      go_wp2_with fail
      go_roundw
      case rel => exact ⟨1, _, by omega, rfl, rfl, rfl, by first | rfl | trivial⟩
      case measure => simp [intOf]
    · obtain rfl : z = (p.length : Int) := hz
      go_wp2_with fail
      go_roundw
      case rel => exact ⟨2, _, by omega, rfl, rfl, rfl, by first | rfl | trivial⟩
      case measure => simp [intOf]
    · obtain rfl : z = ((p.length + 1 : Nat) : Int) := hz
      go_wp2_with fail
      refine (Hgr.out _).mono ?_
      rintro e w1 ⟨c3, rfl, hP1, hb1⟩
      have hB1 := hb1
      go_wp2_with fail
      go_loopw [6, 27] (fun v kv wx => ∃ i : Nat, i ≤ 2 ∧ kv = .int .i64 i ∧ PathAt W9.heap.size wx v (pre p k i) ∧ Below W9.heap.size W9 wx) (fun _ kv _ => 2 - (intOf kv).toNat)
      case atStart => exact ⟨0, by omega, rfl, hP1, hB1⟩
      case round =>
        clear hP1 hb1 hB1
        obtain ⟨i, hi, rfl, hPi, hB⟩ := hrel
        have hsz := hB.size
        obtain rfl | rfl | rfl : i = 0 ∨ i = 1 ∨ i = 2 := by omega
        · have ce := (hB.cell (p := ⟨x, 0, none⟩) hx).trans hc0
          have hO := hPi
          unfold PathAt at hO
          rw [show pre p k 0 = [] from rfl, show vl [] = [] from rfl, List.length_nil] at hO
          clear hPi
          go_wp2_with (at_builtin; refine wpList_append_own _ rfl _ _ 51 rfl W9.heap.size 3 i0 (.int .i64 0) 1 8 Try.underlying51 Hi.out.1 Hi.out.2.1 Hi.out.2.2.1 Hi.out.2.2.2 rfl (by decide) _ _ _ rfl hO ⟨g, 0, none⟩ p.length c1 (vl p) rfl (by rw [vl_len]; omega) ?c1 ?c2 ?c3 ?c4 ?c5 ?_)
          case c1 =>
            intro t u ht
            have hlt : t < p.length := by rw [← vl_len]; exact (List.getElem?_eq_some_iff.1 ht).1
            rw [vl_get hlt] at ht
            injection ht with ht
            subst ht
            rw [addr_add]
            exact (hB.cell (p := ⟨g, t, none⟩) hgl).trans (Hcg.out t hlt)
          case c2 => intro u hu; obtain ⟨x, _, rfl⟩ := List.mem_map.1 hu; rfl
          case c3 => unfold maxLen; omega
          case c4 => omega
          case c5 => first | exact hsz | (simp; omega)
          · intro v4 w4 hO4 hg4 _
            have hB4 := hB.grown hg4 hsz (fun t e => (hO.lt t e).1)
            have hP4 : PathAt W9.heap.size w4 v4 (pre p k 1) := by
              show w4.ownsRow _ 3 1 v4 p.length (vl p)
              simpa using hO4
            clear hO4 hg4 hO hB ce
            go_wp2_with fail
            go_roundw
            case rel => exact ⟨1, by omega, rfl, hP4, hB4⟩
            case measure => simp [intOf]
        · have ce := (hB.cell (p := ⟨x, 1, none⟩) hx).trans hc1
          have hO : _ := hPi
          unfold PathAt at hO
          rw [show pre p k 1 = p from rfl] at hO
          clear hPi
          go_wp2_with (at_builtin; refine wpList_append_own _ rfl _ _ 51 rfl W9.heap.size 3 i0 (.int .i64 0) 1 8 Try.underlying51 Hi.out.1 Hi.out.2.1 Hi.out.2.2.1 Hi.out.2.2.2 rfl (by decide) _ _ _ rfl hO ⟨y, 0, none⟩ 1 c2 [.int .i64 (k : Int)] rfl rfl ?d1 ?d2 ?d3 ?d4 ?d5 ?_)
          case d1 =>
            intro t u ht
            match t, ht with
            | 0, ht =>
              simp at ht
              subst ht
              rw [addr_add]
              exact (hB.cell (p := ⟨y, 0, none⟩) hyl).trans hcy
          case d2 => intro u hu; simp at hu; subst hu; rfl
          case d3 => unfold maxLen; omega
          case d4 => omega
          case d5 => first | exact hsz | (simp; omega)
          · intro v4 w4 hO4 hg4 _
            have hB4 := hB.grown hg4 hsz (fun t e => (hO.lt t e).1)
            have hP4 : PathAt W9.heap.size w4 v4 (pre p k 2) := by
              show w4.ownsRow _ 3 1 v4 (p ++ [k]).length (vl (p ++ [k]))
              rw [vl_snoc, List.length_append]
              exact hO4
            clear hO4 hg4 hO hB ce
            go_wp2_with fail
            go_roundw
            case rel => exact ⟨2, by omega, rfl, hP4, hB4⟩
            case measure => simp [intOf]
        · rw [show pre p k 2 = p ++ [k] from rfl] at hPi
          obtain ⟨g8, c8, rfl, _, _, _, _⟩ := path_form hPi (by rw [List.length_append]; exact Nat.succ_pos _)
          rw [List.length_append] at hPi
          go_wp2_with fail
          go_ret
          exact ⟨g8, c8, (by rw [List.length_append]; rfl), hPi, hB⟩


end RingC
end Go.Proofs.Ytagieilahejobaa
