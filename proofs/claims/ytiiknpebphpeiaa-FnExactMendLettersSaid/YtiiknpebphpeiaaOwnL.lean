/-
  Lists of integers that are one's own: made, copied, appended to.
-/
import Derived.Test.YtiiknpebphpeiaaRows
import Derived.Test.YtiiknpebphpeiaaArr
import Derived.Test.YtiiknpebphpeiaaAll6
import Derived.Test.YtiiknpebphpeiaaOpenD
import Derived.WalkKit
import Derived.Deep.WholeRow
import Derived.WalkLawsBesides
import Derived.WalkSpells
import Derived.ProofKit
import Derived.OpenShut
import Derived.Deep.RegionWith
import Derived.Deep.QuietTactic
import Derived.BigQuiet
namespace Go.Proofs.Ytiiknpebphpeiaa
open Go.ChangeShapes Go.WideShapes Go.ChangeAt Go.RowKit
open Go.ChangeMaps (open_string shut_string)

namespace OwnL
open Dice Arr

/-- A row that is one's own, as an array. -/
theorem At.of_own {w : World} {B g n cap : Nat} {f : Nat → Int} (h : w.ownsRow B 3 1 (.slice (some ⟨g, 0, none⟩) n cap) n (vals n f)) : At w g n f :=
  ⟨(World.ownsRow.lt h g rfl).2, fun k hk => (World.ownsRow.cellAt h k (by omega)).trans (vals_get hk), fun k => World.ownsRow.frozenAt h k⟩
theorem own_form {w : World} {B n : Nat} {v : Value} {xs : List Value} (h : w.ownsRow B 3 1 v n xs) (hv : v ≠ .slice none 0 0) : ∃ g c, v = .slice (some ⟨g, 0, none⟩) n c ∧ B ≤ g ∧ g < w.heap.size := by
  have h2 := h.2
  rcases h2 with ⟨he, _⟩ | ⟨g, cap, cur, he, hb, _⟩
  · exact absurd he hv
  · subst he
    exact ⟨g, cap, rfl, hb, (World.ownsRow.lt h g rfl).2⟩
theorem own_mono {w : World} {B B' n : Nat} {v : Value} {xs : List Value} (h : w.ownsRow B 3 1 v n xs) (hb : B' ≤ B) : w.ownsRow B' 3 1 v n xs :=
  ⟨h.1, h.2.imp id fun ⟨g, cap, cur, he, hb', hr⟩ => ⟨g, cap, cur, he, Nat.le_trans hb hb', hr⟩⟩
theorem own_cap {w : World} {B g n c : Nat} {xs : List Value} (h : w.ownsRow B 3 1 (.slice (some ⟨g, 0, none⟩) n c) n xs) : n ≤ c := by
  have h2 := h.2
  rcases h2 with ⟨he, _⟩ | ⟨g', cap, cur, he, hb, hg, hc, _⟩
  · cases he
  · cases he
    exact hc
theorem info_int : (Try.prog.info? 3).map (fun i => (i.zero, i.size, i.bytes)) = some (some (.int .i64 0), 1, 8) := by kernel_rfl
theorem vals_in {n : Nat} {f : Nat → Int} {t : Nat} {u : Value} (h : (vals n f)[t]? = some u) : t < n ∧ u = .int .i64 (f t) := by
  have hlt : t < n := by rw [← vals_len n f]; exact (List.getElem?_eq_some_iff.1 h).1
  rw [vals_get hlt] at h
  injection h with h
  exact ⟨hlt, h.symm⟩

theorem made_ints (n j : Nat) (h : j < n) : (madeCells (Value.int .i64 0).cells n).toList[j]? = some (.int .i64 0) := by
  have e2 : (madeCells (Value.int .i64 0).cells n) = (Array.range n).map fun _ => Value.int .i64 0 := by
    unfold madeCells
    congr 1
    funext k
    show (#[Value.int .i64 0] : Array Value)[k % 1]! = _
    rw [Nat.mod_one]
    rfl
  rw [e2]
  simp [h]
/-- A list of zeros that is made. -/
theorem make_ints (w : World) (n : Nat) (hn : n ≤ 1048576) : ∃ w1, (Instr.makeSlice 39 (.int .i64 n) (.int .i64 n)).run Try.prog w = .ok (.slice (some ⟨w.heap.size, 0, none⟩) n n) w1 ∧ At w1 w.heap.size n (fun _ => 0) ∧ Below w.heap.size w w1 := by
  obtain ⟨i0, hi, hz0, hz1, hz2⟩ := info_parts info_int
  obtain ⟨w1, hr, hown1, hg1⟩ := run_make_full (P := Try.prog) w w.heap.size 39 3 i0 _ 1 Try.underlying39 hi hz0 hz1 .i64 .i64 n (by rw [hz2]; omega) (by unfold maxLen; omega) (Nat.le_refl _)
  exact ⟨w1, hr, ⟨(hown1.lt _ rfl).2, fun k hk => by rw [hown1.cellAt k (by omega)]; exact made_ints _ _ (by omega), fun k => hown1.frozenAt k⟩, (Below.refl _ _).grown hg1 (Nat.le_refl _) (fun _ e => by cases e)⟩

set_option maxHeartbeats 4000000 in
theorem l1Own_any (g n c : Nat) (f : Nat → Int) (w : World) (hg : g < w.heap.size) (hc : ∀ k, k < n → w.cell? ⟨g, k, none⟩ = some (.int .i64 (f k))) (hn : n ≤ 1000) :
    Calls Try.prog 90 #[.slice (some ⟨g, 0, none⟩) n c] w fun e w' => ∃ g' c', e = .returned (.slice (some ⟨g', 0, none⟩) n c') ∧ w'.ownsRow w.heap.size 3 1 (.slice (some ⟨g', 0, none⟩) n c') n (vals n f) ∧ Below w.heap.size w w' := by
  have Hc := Lib.hid hc; clear hc
  obtain ⟨i0, hi, hz0, hz1, hz2⟩ := info_parts info_int
  have Hi := Lib.hid (And.intro hi (And.intro hz0 (And.intro hz1 hz2)))
  clear hi hz0 hz1 hz2
  have hB := na (n0 w) (.cells #[] 3)
  have hO0 : (w.alloc (.cells #[] 3)).ownsRow w.heap.size 3 1 (.slice (some ⟨w.heap.size, 0, none⟩) 0 0) 0 [] := World.ownsRow_made w #[] 0 (Nat.le_refl _) (by decide) rfl
  go_enter Try.func90, Try.ntmps90
  go_wp2_with (at_builtin; refine wpList_append_own _ rfl _ _ 39 rfl w.heap.size 3 i0 (.int .i64 0) 1 8 Try.underlying39 Hi.out.1 Hi.out.2.1 Hi.out.2.2.1 Hi.out.2.2.2 rfl (by decide) _ _ _ rfl hO0 ⟨g, 0, none⟩ n c (vals n f) rfl (by rw [vals_len]; omega) ?c1 ?c2 ?c3 ?c4 ?c5 ?_)
  case c1 =>
    intro t u ht
    obtain ⟨hlt, rfl⟩ := vals_in ht
    rw [addr_add]
    exact ((Below.refl w.heap.size w).alloc (Nat.le_refl _) _ |>.cell (p := ⟨g, t, none⟩) hg).trans (Hc.out t hlt)
  case c2 => exact vals_one n f
  case c3 => unfold maxLen; omega
  case c4 => omega
  case c5 => first | (simp; omega) | simp
  · intro v' w4 hO4 hg4 hv4
    have hB4 := hB.grown hg4 (by rw [size_alloc]; omega) (fun t e => (hO0.lt t e).1)
    obtain ⟨g', c', rfl, _, _⟩ := own_form hO4 hv4
    go_wp2_with fail
    go_ret
    exact ⟨_, _, rfl, hO4, hB4⟩


theorem own_up {w w' : World} {B e size n : Nat} {v : Value} {xs : List Value} (h : w.ownsRow B e size v n xs) (hb : Below w.heap.size w w') : w'.ownsRow B e size v n xs :=
  h.kept (row := none) ⟨hb.os, hb.tape, hb.output, hb.size, fun j hj _ => hb.block j hj⟩ (by cases hv : v.ownBlock <;> simp)
theorem news_one {w : World} {b : Nat} {x : Value} (h : w.cell? ⟨b, 0, none⟩ = some x) : ∀ j u, ([x] : List Value)[j]? = some u → w.cell? ((⟨b, 0, none⟩ : Addr).add j) = some u := by
  intro j u hj
  match j, hj with
  | 0, hj =>
    simp at hj
    subst hj
    simpa [Addr.add] using h
theorem cell_one (w : World) (x : Value) (t : TypeId) : (w.alloc (.cells #[x] t)).cell? ⟨w.heap.size, 0, none⟩ = some x := by
  rw [World.cell?_alloc_at _ _ _ _ rfl]
  rfl
/-- A list that grew by a number, as an array. -/
theorem At.of_own' {w : World} {B g n cap : Nat} {f : Nat → Int} (h : w.ownsRow B 3 1 (.slice (some ⟨g, 0, none⟩) n cap) n (vals n f)) : At w g n f ∧ B ≤ g := ⟨At.of_own h, (World.ownsRow.lt h g rfl).1⟩
theorem vals_snoc (n : Nat) (f : Nat → Int) : vals n f ++ [.int .i64 (f n)] = vals (n + 1) f := by
  unfold vals
  rw [List.range_succ, List.map_append]
  rfl


end OwnL
end Go.Proofs.Ytiiknpebphpeiaa
