/-
  A code cut by one byte.
-/
import Derived.Test.YtbcaahaaaodhkaaRows
import Derived.Test.YtbcaahaaaodhkaaDrawH
import Derived.Test.YtbcaahaaaodhkaaPoolD
import Derived.Test.YtbcaahaaaodhkaaDieD
import Derived.Test.YtbcaahaaaodhkaaCurN
import Derived.Test.YtbcaahaaaodhkaaBubW
import Derived.Test.YtbcaahaaaodhkaaDicesW
import Derived.Test.YtbcaahaaaodhkaaSortW
import Derived.Test.YtbcaahaaaodhkaaDieW
import Derived.Test.YtbcaahaaaodhkaaOpenD
import Derived.WalkKit
import Derived.WalkLawsBesides
import Derived.WalkSpells
import Derived.ProofKit
import Derived.OpenShut
import Derived.Deep.RegionWith
import Derived.Lib.AppendZeros
import Derived.Deep.QuietTactic
import Derived.BigQuiet
namespace Go.Proofs.Ytbcaahaaaodhkaa
open Go.ChangeShapes Go.WideShapes Go.ChangeAt Go.RowKit
open Go.ChangeMaps (open_string shut_string)

namespace VCut
open Dice Arr OpenD DieW SortW DicesW CurN BubW DieD PoolD DrawH

theorem info_u8 : (Try.prog.info? 5).map (fun i => (i.zero, i.size, i.bytes)) = some (some (.int .u8 0), 1, 1) := by kernel_rfl
/-- Bytes as values. -/
def bs (f : Nat → Nat) (m : Nat) : List Value := (List.range m).map fun i => .int .u8 (f i : Int)
theorem bs_len (f : Nat → Nat) (m : Nat) : (bs f m).length = m := by simp [bs]
theorem bs_get (f : Nat → Nat) {m i : Nat} (h : i < m) : (bs f m)[i]? = some (.int .u8 (f i : Int)) := by simp [bs, h]
theorem bs_one (f : Nat → Nat) (m : Nat) : ∀ u ∈ bs f m, u.oneCell' = true := by
  intro u hu
  simp [bs] at hu
  obtain ⟨i, _, rfl⟩ := hu
  rfl
theorem bytes_of {w : World} {B : Nat} {A : Option Addr} {n : Nat} (h : CurN.Code w B A n) (h0 : 0 < n) : ∃ (b o : Nat) (f : Nat → Nat), A = some ⟨b, o, none⟩ ∧ b < B ∧ ∀ k, k < n → f k < 256 ∧ w.cell? ⟨b, o + k, none⟩ = some (.int .u8 (f k : Int)) := by
  rcases h with h | ⟨b, o, hA, hb, hc⟩
  · omega
  · exact ⟨b, o, fun k => if hk : k < n then Classical.choose (hc k hk) else 0, hA, hb, fun k hk => by
      have := Classical.choose_spec (hc k hk)
      simp only [hk, dite_true]
      exact this⟩
theorem code_own {w : World} {B : Nat} {v : Value} {m : Nat} {xs : List Value} (h : w.ownsRow B 5 1 v m xs) (hx : ∀ j, j < m → ∃ q : Nat, q < 256 ∧ xs[j]? = some (.int .u8 (q : Int))) : ∃ A c, v = .slice A m c ∧ m ≤ c ∧ CurN.Code w w.heap.size A m := by
  rcases h.2 with ⟨rfl, h0⟩ | ⟨g, cap, cur, rfl, hb, hg, hnc, hcm, hcs, htake⟩
  · exact ⟨none, 0, by rw [h0], by omega, .inl h0⟩
  · refine ⟨_, cap, rfl, hnc, .inr ⟨g, 0, rfl, (Array.getElem?_eq_some_iff.1 hg).1, fun k hk => ?_⟩⟩
    obtain ⟨q, hq, e⟩ := hx k hk
    refine ⟨q, hq, ?_⟩
    rw [Nat.zero_add, h.cellAt k (by omega)]
    exact e

set_option maxRecDepth 20000 in
set_option maxHeartbeats 4000000 in
theorem vCut_any (A : Option Addr) (n c : Nat) (w : World) (h : CurN.Code w w.heap.size A n) (hn : n ≤ 65536) (hnc : n ≤ c) :
    Calls Try.prog 32 #[.slice A n c, .int .i64 1] w fun e w' => (∃ A' n' c', e = .returned (.slice A' n' c') ∧ n' ≤ 65537 ∧ n' ≤ c' ∧ CurN.Code w' w'.heap.size A' n') ∧ Below w.heap.size w w' := by
  obtain ⟨i8, hi, hz0, hz1, hz2⟩ := info_parts info_u8
  have H8 := Lib.hid (And.intro hi (And.intro hz0 (And.intro hz1 hz2)))
  clear hi hz0 hz1 hz2
  have hO : (w.alloc (.cells #[] 5)).ownsRow w.heap.size 5 1 (.slice (some ⟨w.heap.size, 0, none⟩) 0 0) 0 [] := World.ownsRow_made w #[] 0 (Nat.le_refl _) (by decide) rfl
  have hB := na (n0 w) (.cells #[] 5)
  by_cases h0 : n = 0
  · subst h0
    cases A with
    | none =>
      go_enter Try.func32, Try.ntmps32
      go_wp2_with (at_builtin; refine wpList_append_own _ rfl _ _ 41 rfl w.heap.size 5 i8 (.int .u8 0) 1 1 Try.underlying41 H8.out.1 H8.out.2.1 H8.out.2.2.1 H8.out.2.2.2 rfl (by decide) _ _ _ rfl (hO.alloc _) ⟨(w.heap.size + 1), 0, none⟩ 1 1 [.int .u8 0] rfl rfl ?p1 ?p2 ?p3 ?p4 ?p5 ?_)
      case p1 =>
        intro t u ht
        match t, ht with
        | 0, ht => simp at ht; subst ht; simp [Addr.add]
      case p2 => intro u hu; simp at hu; rcases hu with rfl; rfl
      case p3 => unfold maxLen; omega
      case p4 => omega
      case p5 => have := hB.size; simp; omega
      · intro v3 w3 hO3 hg3 _
        have hB3 := (na hB (.cells #[.int .u8 0] 5)).grown hg3 (by have := hB.size; rw [size_alloc]; omega) (fun t e => (hO.lt t e).1)
        obtain ⟨A3, c3, rfl, h3, hC3⟩ := code_own hO3 (fun j hj => by
          obtain rfl : j = 0 := by omega
          exact ⟨0, by decide, rfl⟩)
        go_wp2_with fail
        go_ret
        exact ⟨⟨_, _, _, rfl, by omega, h3, hC3⟩, hB3⟩
    | some ad =>
      go_enter Try.func32, Try.ntmps32
      go_wp2_with (at_builtin; refine wpList_append_own _ rfl _ _ 41 rfl w.heap.size 5 i8 (.int .u8 0) 1 1 Try.underlying41 H8.out.1 H8.out.2.1 H8.out.2.2.1 H8.out.2.2.2 rfl (by decide) _ _ _ rfl (hO.alloc _) ⟨(w.heap.size + 1), 0, none⟩ 1 1 [.int .u8 0] rfl rfl ?q1 ?q2 ?q3 ?q4 ?q5 ?_)
      case q1 =>
        intro t u ht
        match t, ht with
        | 0, ht => simp at ht; subst ht; simp [Addr.add]
      case q2 => intro u hu; simp at hu; rcases hu with rfl; rfl
      case q3 => unfold maxLen; omega
      case q4 => omega
      case q5 => have := hB.size; simp; omega
      · intro v3 w3 hO3 hg3 _
        have hB3 := (na hB (.cells #[.int .u8 0] 5)).grown hg3 (by have := hB.size; rw [size_alloc]; omega) (fun t e => (hO.lt t e).1)
        obtain ⟨A3, c3, rfl, h3, hC3⟩ := code_own hO3 (fun j hj => by
          obtain rfl : j = 0 := by omega
          exact ⟨0, by decide, rfl⟩)
        go_wp2_with fail
        go_ret
        exact ⟨⟨_, _, _, rfl, by omega, h3, hC3⟩, hB3⟩
  · obtain ⟨b, o, f, rfl, hb, hc⟩ := bytes_of h (by omega)
    have h1 : ¬ ((1 : Int) > (n : Int)) := by omega
    have h1' : decide ((n : Int) < 1) = false := decide_eq_false (by omega)
    have h2 : (1 : Nat) ≤ n := by omega
    by_cases hc1 : c = 1
    · obtain rfl : n = 1 := by omega
      subst hc1
      clear hc h1 h1' h2 hn h0 hnc h hb
      go_enter Try.func32, Try.ntmps32
      go_wp2_with (at_builtin; refine wpList_append_own _ rfl _ _ 41 rfl w.heap.size 5 i8 (.int .u8 0) 1 1 Try.underlying41 H8.out.1 H8.out.2.1 H8.out.2.2.1 H8.out.2.2.2 rfl (by decide) _ _ _ rfl (hO.alloc _) ⟨(w.heap.size + 1), 0, none⟩ 1 1 [.int .u8 1] rfl rfl ?r1 ?r2 ?r3 ?r4 ?r5 ?_)
      case r1 =>
        intro t u ht
        match t, ht with
        | 0, ht => simp at ht; subst ht; simp [Addr.add]
      case r2 => intro u hu; simp at hu; rcases hu with rfl; rfl
      case r3 => unfold maxLen; omega
      case r4 => omega
      case r5 => have := hB.size; simp; omega
      · intro v3 w3 hO3 hg3 _
        have hB3 := (na hB (.cells #[.int .u8 1] 5)).grown hg3 (by have := hB.size; rw [size_alloc]; omega) (fun t e => (hO.lt t e).1)
        obtain ⟨A3, c3, rfl, h3, hC3⟩ := code_own hO3 (fun j hj => by
          obtain rfl : j = 0 := by omega
          exact ⟨1, by decide, rfl⟩)
        go_wp2_with fail
        go_ret
        exact ⟨⟨_, _, _, rfl, by omega, h3, hC3⟩, hB3⟩
    · have hc2 : ¬ (c - 1 = 0) := by omega
      go_enter Try.func32, Try.ntmps32
      go_wp2_with (at_builtin; refine wpList_append_own _ rfl _ _ 41 rfl w.heap.size 5 i8 (.int .u8 0) 1 1 Try.underlying41 H8.out.1 H8.out.2.1 H8.out.2.2.1 H8.out.2.2.2 rfl (by decide) _ _ _ rfl hO ⟨b, o + 1, none⟩ (n - 1) (c - 1) (bs (fun i => f (i + 1)) (n - 1)) rfl ?c1 ?c2 ?c3 ?c4 ?c5 ?c6 ?_)
      case c1 => simp [bs_len]
      case c2 =>
        intro t u ht
        have ht' : t < n - 1 := by have := (List.getElem?_eq_some_iff.1 ht).1; rwa [bs_len] at this
        rw [bs_get _ ht'] at ht
        try rw [add_plain]
        rw [show o + 1 + t = o + (t + 1) by omega]
        first | exact (hc (t + 1) (by omega)).2.trans ht | exact ((hB.cell (p := ⟨b, o + (t + 1), none⟩) hb).trans (hc (t + 1) (by omega)).2).trans ht
      case c3 => exact bs_one _ _
      case c4 => unfold maxLen; omega
      case c5 => omega
      · intro v2 w2 hO2 hg2 _
        have hB2 := hB.grown hg2 hB.size (fun t e => (hO.lt t e).1)
        try rw [Nat.zero_add, List.nil_append] at hO2
        go_wp2_with (at_builtin; refine wpList_append_own _ rfl _ _ 41 rfl w.heap.size 5 i8 (.int .u8 0) 1 1 Try.underlying41 H8.out.1 H8.out.2.1 H8.out.2.2.1 H8.out.2.2.2 rfl (by decide) _ _ _ rfl (hO2.alloc _) ⟨w2.heap.size, 0, none⟩ 1 1 [.int .u8 1] rfl rfl ?s1 ?s2 ?s3 ?s4 ?s5 ?_)
        case s1 =>
          intro t u ht
          match t, ht with
          | 0, ht => simp at ht; subst ht; simp [Addr.add]
        case s2 => intro u hu; simp at hu; rcases hu with rfl; rfl
        case s3 => unfold maxLen; omega
        case s4 => omega
        case s5 => have := hB2.size; simp; omega
        · intro v3 w3 hO3 hg3 _
          have hB3 := (na hB2 (.cells #[.int .u8 1] 5)).grown hg3 (by have := hB2.size; rw [size_alloc]; omega) (fun t e => (hO2.lt t e).1)
          obtain ⟨A3, c3, rfl, h3, hC3⟩ := code_own hO3 (fun j hj => by
            by_cases hjm : j < (n - 1)
            · rw [List.getElem?_append_left (by rw [bs_len]; exact hjm)]
              exact ⟨f (j + 1), (hc (j + 1) (by omega)).1, bs_get _ hjm⟩
            · obtain rfl : j = (n - 1) := by omega
              rw [List.getElem?_append_right (by rw [bs_len]; exact Nat.le_refl _), bs_len, Nat.sub_self]
              exact ⟨1, by decide, rfl⟩)
          go_wp2_with fail
          go_ret
          exact ⟨⟨_, _, _, rfl, by omega, h3, hC3⟩, hB3⟩


end VCut
end Go.Proofs.Ytbcaahaaaodhkaa
