/-
  Paths in memory.
-/
import Derived.Test.YtagieilahejobaaRows
import Derived.Test.YtagieilahejobaaRingM
import Derived.Test.YtagieilahejobaaPairsW
import Derived.Test.YtagieilahejobaaGridW
import Derived.Test.YtagieilahejobaaTableS2
import Derived.Test.YtagieilahejobaaRingI
import Derived.Test.YtagieilahejobaaRingS
import Derived.Test.YtagieilahejobaaManyI
import Derived.Test.YtagieilahejobaaManyS
import Derived.Test.YtagieilahejobaaAnyR
import Derived.Test.YtagieilahejobaaBeatI
import Derived.Test.YtagieilahejobaaIntsW
import Derived.Test.YtagieilahejobaaSafeI
import Derived.Test.YtagieilahejobaaSafeS
import Derived.Test.YtagieilahejobaaRowW
import Derived.Test.YtagieilahejobaaRowsL
import Derived.Test.YtagieilahejobaaQuietR
import Derived.Test.YtagieilahejobaaQuietD
import Derived.Test.YtagieilahejobaaBestI
import Derived.Test.YtagieilahejobaaBestS
import Derived.Test.YtagieilahejobaaShelfMax
import Derived.Test.YtagieilahejobaaTopW
import Derived.Test.YtagieilahejobaaManyW
import Derived.Test.YtagieilahejobaaDicesW
import Derived.Test.YtagieilahejobaaWaysW
import Derived.Test.YtagieilahejobaaKnow
import Derived.Test.YtagieilahejobaaCmpW
import Derived.Test.YtagieilahejobaaCompW
import Derived.Test.YtagieilahejobaaCompS
import Derived.Test.YtagieilahejobaaDuel
import Derived.Test.YtagieilahejobaaDieW
import Derived.Test.YtagieilahejobaaSortW
import Derived.Test.YtagieilahejobaaOpenD
import Derived.WalkKit
import Derived.WalkLawsBesides
import Derived.WalkSpells
import Derived.ProofKit
import Derived.OpenShut
import Derived.Deep.RegionWith
import Derived.Deep.QuietTactic
import Derived.BigQuiet
namespace Go.Proofs.Ytagieilahejobaa
open Go.ChangeShapes Go.WideShapes Go.ChangeAt Go.RowKit
open Go.ChangeMaps (open_string shut_string)

namespace RingW
open Dice Arr OpenD DieW SortW Duel CmpW Know WaysW CompS CompW ManyW QuietD QuietR TopW DicesW BestS BestI RowsL RowW SafeS SafeI BeatI IntsW ManyS ManyI RingS RingI AnyR TableS2 GridW PairsW RingM

/-- The cells of a path. -/
def vl (p : List Nat) : List Value := p.map fun (x : Nat) => Value.int .i64 (x : Int)
theorem vl_len (p : List Nat) : (vl p).length = p.length := List.length_map _
theorem vl_get {p : List Nat} {k : Nat} (h : k < p.length) : (vl p)[k]? = some (.int .i64 ((p[k] : Nat) : Int)) := by
  unfold vl
  rw [List.getElem?_map, List.getElem?_eq_getElem h]
  rfl
theorem vl_snoc (p : List Nat) (k : Nat) : vl (p ++ [k]) = vl p ++ [.int .i64 (k : Int)] := by simp [vl]
/-- A path in memory, from block B on. -/
def PathAt (B : Nat) (w : World) (v : Value) (p : List Nat) : Prop := w.ownsRow B 3 1 v p.length (vl p)
theorem path_form {B : Nat} {w : World} {v : Value} {p : List Nat} (h : PathAt B w v p) (h0 : 0 < p.length) : ∃ g c, v = .slice (some ⟨g, 0, none⟩) p.length c ∧ B ≤ g ∧ g < w.heap.size ∧ p.length ≤ c ∧ ∀ k (hk : k < p.length), w.cell? ⟨g, k, none⟩ = some (.int .i64 ((p[k] : Nat) : Int)) := by
  have h2 := h.2
  rcases h2 with ⟨_, hn⟩ | ⟨g, cap, cur, hv, hb, hg, hc, _⟩
  · omega
  · subst hv
    exact ⟨g, cap, rfl, hb, (World.ownsRow.lt h g rfl).2, hc, fun k hk => (World.ownsRow.cellAt h k (by omega)).trans (vl_get hk)⟩
theorem contains_no {p : List Nat} {x k : Nat} (hk : k < p.length) (h : ∀ j (hj : j < p.length), j < k → p[j] ≠ x) (hne : p[k] ≠ x) : ∀ j (hj : j < p.length), j < k + 1 → p[j] ≠ x := by
  intro j hj hlt
  by_cases he : j = k
  · subst he; exact hne
  · exact h j hj (by omega)
theorem contains_end {p : List Nat} {x : Nat} (h : ∀ j (hj : j < p.length), j < p.length → p[j] ≠ x) : p.contains x = false := by
  rw [Bool.eq_false_iff]
  intro hc
  obtain ⟨j, hj, he⟩ := List.getElem_of_mem (List.contains_iff_mem.1 hc)
  exact h j hj hj he
theorem contains_hit {p : List Nat} {x k : Nat} (hk : k < p.length) (h : p[k] = x) : p.contains x = true := List.contains_iff_mem.2 (h ▸ List.getElem_mem hk)

set_option maxHeartbeats 4000000 in
theorem l1Has_any (B : Nat) (v : Value) (p : List Nat) (x : Nat) (w : World) (h : PathAt B w v p) (h0 : 0 < p.length) (hl : p.length ≤ 1000) :
    Calls Try.prog 72 #[v, .int .i64 x] w fun e w' => e = .returned (.bool (p.contains x)) ∧ w' = w := by
  obtain ⟨g, c, rfl, hg, hgl, hc, hcells⟩ := path_form h h0
  clear h
  have Hc := Lib.hid hcells; clear hcells
  go_enter Try.func72, Try.ntmps72
  go_wp2_with fail
  go_loopw [5] (fun kv wr => ∃ k : Nat, k ≤ p.length ∧ kv = .int .i64 k ∧ Hid (∀ j (hj : j < p.length), j < k → p[j] ≠ x) ∧ wr = w) (fun kv _ => p.length - (intOf kv).toNat)
  case atStart => exact ⟨0, by omega, rfl, fun j hj hlt => by omega, rfl⟩
  case round =>
    obtain ⟨k, hk, rfl, hno, rfl⟩ := hrel
    by_cases hlt : k < p.length
    · have hkt : decide (k < p.length) = true := decide_eq_true hlt
      have ck := Hc.out k hlt
      by_cases he : p[k] = x
      · have hy := Lib.hid (contains_hit hlt he)
        have hb : (((p[k] : Nat) : Int) == (x : Int)) = true := by rw [he]; simp
        clear he
        go_wp2_with fail
        go_ret
        exact ⟨by rw [hy.out]; rfl, by first | rfl | trivial⟩
      · have hn : Hid (∀ j (hj : j < p.length), j < k + 1 → p[j] ≠ x) := contains_no hlt hno.out he
        have hb : (((p[k] : Nat) : Int) == (x : Int)) = false := by
          rw [Bool.eq_false_iff]
          intro e
          have := eq_of_beq e
          omega
        clear he
        go_wp2_with fail
        go_roundw
        case rel => exact ⟨k + 1, by omega, by go_num, hn, by first | rfl | trivial⟩
        case measure => simp [intOf]; omega
    · obtain rfl : k = p.length := by omega
      have hy := Lib.hid (contains_end hno.out)
      go_wp2_with fail
      go_ret
      exact ⟨by rw [hy.out]; rfl, by first | rfl | trivial⟩

set_option maxHeartbeats 4000000 in
theorem l1Own_any (B : Nat) (v : Value) (p : List Nat) (w : World) (h : PathAt B w v p) (h0 : 0 < p.length) (hl : p.length ≤ 1000) :
    Calls Try.prog 71 #[v] w fun e w' => ∃ v', e = .returned v' ∧ PathAt w.heap.size w' v' p ∧ Below w.heap.size w w' := by
  obtain ⟨g, c, rfl, hg, hgl, hc, hcells⟩ := path_form h h0
  clear h
  have Hc := Lib.hid hcells; clear hcells
  obtain ⟨i0, hi, hz0, hz1, hz2⟩ := info_parts info_int
  have Hi := Lib.hid (And.intro hi (And.intro hz0 (And.intro hz1 hz2)))
  clear hi hz0 hz1 hz2
  have hB := na (n0 w) (.cells #[] 3)
  have hO0 : (w.alloc (.cells #[] 3)).ownsRow w.heap.size 3 1 (.slice (some ⟨w.heap.size, 0, none⟩) 0 0) 0 [] := World.ownsRow_made w #[] 0 (Nat.le_refl _) (by decide) rfl
  go_enter Try.func71, Try.ntmps71
  go_wp2_with (at_builtin; refine wpList_append_own _ rfl _ _ 51 rfl w.heap.size 3 i0 (.int .i64 0) 1 8 Try.underlying51 Hi.out.1 Hi.out.2.1 Hi.out.2.2.1 Hi.out.2.2.2 rfl (by decide) _ _ _ rfl hO0 ⟨g, 0, none⟩ p.length c (vl p) rfl (by rw [vl_len]; omega) ?c1 ?c2 ?c3 ?c4 ?c5 ?_)
  case c1 =>
    intro t u ht
    have hlt : t < p.length := by rw [← vl_len]; exact (List.getElem?_eq_some_iff.1 ht).1
    rw [vl_get hlt] at ht
    injection ht with ht
    subst ht
    rw [addr_add]
    exact ((Below.refl w.heap.size w).alloc (Nat.le_refl _) _ |>.cell (p := ⟨g, t, none⟩) hgl).trans (Hc.out t hlt)
  case c2 => intro u hu; obtain ⟨x, _, rfl⟩ := List.mem_map.1 hu; rfl
  case c3 => unfold maxLen; omega
  case c4 => omega
  case c5 => first | (simp; omega) | simp
  · intro v' w4 hO4 hg4 _
    have hB4 := hB.grown hg4 (by rw [size_alloc]; omega) (fun t e => (hO0.lt t e).1)
    go_wp2_with fail
    go_ret
    exact ⟨_, rfl, hO4, hB4⟩


end RingW
end Go.Proofs.Ytagieilahejobaa
