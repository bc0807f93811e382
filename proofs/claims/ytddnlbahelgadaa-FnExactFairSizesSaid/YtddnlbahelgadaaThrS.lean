/-
  ThrowsOf by the specification.
-/
import Derived.Test.YtddnlbahelgadaaRows
import Derived.Test.YtddnlbahelgadaaArr
import Derived.Test.YtddnlbahelgadaaDieW
import Derived.Test.YtddnlbahelgadaaSortW
import Derived.Test.YtddnlbahelgadaaDicesW
import Derived.Test.YtddnlbahelgadaaOwnL
import Derived.Test.YtddnlbahelgadaaIntsW
import Derived.Test.YtddnlbahelgadaaIntsE
import Derived.Test.YtddnlbahelgadaaOpenI
import Derived.Test.YtddnlbahelgadaaOpenD
import Derived.Test.YtddnlbahelgadaaMadL
import Derived.Test.YtddnlbahelgadaaMadC
import Derived.Test.YtddnlbahelgadaaMadK
import Derived.Test.YtddnlbahelgadaaListK
import Derived.Test.YtddnlbahelgadaaOpenD
import Derived.WalkKit
import Derived.WalkLawsBesides
import Derived.WalkSpells
import Derived.ProofKit
import Derived.OpenShut
import Derived.Deep.RegionWith
import Derived.Deep.QuietTactic
import Derived.BigQuiet
namespace Go.Proofs.Ytddnlbahelgadaa
open Go.ChangeShapes Go.WideShapes Go.ChangeAt Go.RowKit
open Go.ChangeMaps (open_string shut_string)

namespace ThrS
open Dice Arr DieW SortW OwnL OpenG OpenD MadL MadC IntsW MadK ListK

/-- The number of the next three bits, and the throws that are made. -/
def x3 (f : Nat → Int) (k : Nat) : Int := 4 * f (3 * k) + 2 * f (3 * k + 1) + f (3 * k + 2)
def tl (f : Nat → Int) : Nat → List Int
  | 0 => []
  | k + 1 => if x3 f k < 6 then tl f k ++ [x3 f k] else tl f k
theorem tl_len (f : Nat → Int) : ∀ k, (tl f k).length ≤ k
  | 0 => Nat.le_refl _
  | k + 1 => by
    have := tl_len f k
    show (if x3 f k < 6 then tl f k ++ [x3 f k] else tl f k).length ≤ _
    split
    · simp; omega
    · omega
def oT (n : Nat) (f : Nat → Int) : List Int := if okM 40 2 n f then tl f (n / 3) else []
def lfT (n : Nat) (f : Nat → Int) : Int := if okM 40 2 n f then ((n % 3 : Nat) : Int) else 0
theorem oT_len (n : Nat) (f : Nat → Int) : (oT n f).length ≤ 1048576 := by
  unfold oT
  split
  case isTrue h =>
    have := (of_okM h).1
    have := tl_len f (n / 3)
    omega
  case isFalse => exact Nat.zero_le _
theorem below_dn {B : Nat} {w w' : World} (h : Below B w w') (q : Nat) : Below B w (w'.drewN q) := ⟨h.os, h.tape, h.output, h.size, h.block⟩
theorem own_eq {w W : World} {q B n : Nat} {v : Value} {xs : List Value} (hW : w.drewN q = W) (h : w.ownsRow B 3 1 v n xs) : W.ownsRow B 3 1 v n xs := by rw [← hW]; exact own_up h (below_dn (n0 w) q)
theorem ownN {w : World} {B n : Nat} {v : Value} {xs : List Value} (h : w.ownsRow B 3 1 v n xs) (q : Nat) : (w.drewN q).ownsRow B 3 1 v n xs := own_up h (below_dn (n0 w) q)

set_option maxRecDepth 100000 in
set_option maxHeartbeats 4000000 in
theorem specTO_any (g n : Nat) (f : Nat → Int) (w : World) (hA : At w g n f) (hn : n ≤ 1048576) :
    Calls Try.prog 35 #[.slice (some ⟨g, 0, none⟩) n n] w fun e w' => ∃ A c, e = .returned (.tuple #[.slice A (oT n f).length c, .int .i64 (lfT n f), .bool (okM 40 2 n f)]) ∧ Ints w.heap.size w' A (oT n f).length (fun i => (oT n f).getD i 0) ∧ Below w.heap.size w w' := by
  have hth := fun w hA => specBits_any g n f w hA hn
  have hgl := hA.lt
  cases ho : okM 40 2 n f
  · rw [ho] at hth
    have Hth := Lib.hid hth; clear hth
    have e : oT n f = [] := by simp [oT, ho]
    have e2 : lfT n f = 0 := by simp [lfT, ho]
    rw [e, e2]
    clear e e2 ho
    have hB := na (n0 w) (.cells #[] 3)
    have hO := own_empty w
    have hA := hA.past (.cells #[] 3)
    have HA := Lib.hid hA
    go_enter Try.func35, Try.ntmps35
    go_wp2_with fail
    refine (Hth.out _ HA.out).mono ?_
    rintro e w1 ⟨rfl, hw⟩
    have hw := hw.symm
    subst hw
    go_wp2_with fail
    refine bodyPost_ret (results_tmp3 rfl _ _ _) rfl ?_
    exact ⟨_, _, rfl, ints_empty, hB⟩
  rw [ho] at hth
  have Hth := Lib.hid hth; clear hth
  have e : oT n f = tl f (n / 3) := by simp [oT, ho]
  have e2 : lfT n f = ((n % 3 : Nat) : Int) := by simp [lfT, ho]
  rw [e, e2]
  clear e e2
  obtain ⟨h40, hf⟩ := of_okM ho
  clear ho
  have Htl := Lib.hid (tl_len f)
  have Hst : Hid (∀ k, tl f (k + 1) = if x3 f k < 6 then tl f k ++ [x3 f k] else tl f k) := fun k => rfl
  obtain ⟨i0, hi0, hz0, hz1, hz2⟩ := info_parts OwnL.info_int
  have Hi := Lib.hid (And.intro hi0 (And.intro hz0 (And.intro hz1 hz2)))
  clear hi0 hz0 hz1 hz2
  have Hf := Lib.hid hf; clear hf
  have hx3 : Hid (∀ k, x3 f k = 4 * f (3 * k) + 2 * f (3 * k + 1) + f (3 * k + 2)) := fun k => rfl
  have hB := na (n0 w) (.cells #[] 3)
  have hO := own_empty w
  have hA := hA.past (.cells #[] 3)
  have HA := Lib.hid hA
  go_enter Try.func35, Try.ntmps35
  go_wp2_with fail
  refine (Hth.out _ HA.out).mono ?_
  rintro e w1 ⟨rfl, hw⟩
  have hw := hw.symm
  subst hw
  go_wp2_with fail
  go_loopw [5, 6] (fun lv kv wr => ∃ k : Nat, k ≤ n / 3 ∧ kv = .int .i64 (3 * k : Nat) ∧ wr.ownsRow w.heap.size 3 1 lv (tl f k).length ((tl f k).map mk) ∧ At wr g n f ∧ Below w.heap.size w wr) (fun _ kv _ => n - (intOf kv).toNat)
  case atStart => exact ⟨0, by omega, rfl, hO, hA, hB⟩
  case round =>
    clear hO hA hB HA
    obtain ⟨k, hk, rfl, hO, hA, hB⟩ := hrel
    by_cases hlt : k < n / 3
    · obtain ⟨p, hp⟩ : ∃ p, p = 3 * k := ⟨_, rfl⟩
      have hit : decide (((p : Nat) : Int) + 3 ≤ (n : Int)) = true := decide_eq_true (by omega)
      have hitN : decide (p + 3 ≤ n) = true := decide_eq_true (by omega)
      have f0 := Hf.out p (by omega)
      have f1 := Hf.out (p + 1) (by omega)
      have f2 := Hf.out (p + 2) (by omega)
      have c0 := hA.cell p (by omega)
      have c1 := hA.cell (p + 1) (by omega)
      have c2 := hA.cell (p + 2) (by omega)
      have hst := Hst.out k
      have hlen := Htl.out k
      have hx := hx3.out k
      rw [← hp] at hx
      obtain ⟨L, hL⟩ : ∃ L, L = tl f k := ⟨_, rfl⟩
      rw [← hL] at hO hst hlen
      clear hL
      obtain ⟨v0, hv0⟩ : ∃ v : Nat, f p = v := ⟨(f p).toNat, by omega⟩
      obtain ⟨v1, hv1⟩ : ∃ v : Nat, f (p + 1) = v := ⟨(f (p + 1)).toNat, by omega⟩
      obtain ⟨v2, hv2⟩ : ∃ v : Nat, f (p + 2) = v := ⟨(f (p + 2)).toNat, by omega⟩
      rw [hv0] at c0 f0 hx
      rw [hv1] at c1 f1 hx
      rw [hv2] at c2 f2 hx
      clear hv0 hv1 hv2
      have hpn : p + 2 < n := by omega
      have hpn1 : p + 1 < n := by omega
      have hpn0 : p < n := by omega
      have Hp := Lib.hid hp
      rw [← hp]
      clear hp
      obtain ⟨x, hxx⟩ : ∃ x, x = x3 f k := ⟨_, rfl⟩
      rw [← hxx] at hx hst
      clear hxx
      have Hx := Lib.hid hx
      have hx7 : 0 ≤ x ∧ x ≤ 7 := by omega
      clear hx
      have hlt2 : decide (4 * (v0 : Int) + 2 * (v1 : Int) + (v2 : Int) < 6) = decide (x < 6) := by rw [← Hx.out]
      by_cases h6 : x < 6
      · rw [if_pos h6] at hst
        have Hst1 := Lib.hid hst; clear hst
        rw [decide_eq_true h6] at hlt2
        go_wp2_with fail
        go_quiet (fail)
        generalize hW : World.drewN wr _ = WW
        have hO' := own_eq hW hO
        have hA' : At WW g n f := by rw [← hW]; exact hA.drewN _
        have hB' : Below w.heap.size w WW := by rw [← hW]; exact below_dn hB _
        clear hO hA hB hW
        have hO := hO'
        have hA := hA'
        have hB := hB'
        clear hO' hA' hB'
        go_wp2_with (at_builtin; refine wpList_append_own _ rfl _ _ 22 rfl (w.heap.size) 3 i0 (.int .i64 0) 1 8 Try.underlying22 Hi.out.1 Hi.out.2.1 Hi.out.2.2.1 Hi.out.2.2.2 rfl (by decide) _ _ _ rfl (hO.alloc _) ⟨WW.heap.size, 0, none⟩ 1 1 [.int .i64 (4 * (v0 : Int) + 2 * (v1 : Int) + (v2 : Int))] rfl rfl ?c1 ?c2 ?c3 ?c4 ?c5 ?_)
        case c1 => exact news_one (cell_one _ _ _)
        case c2 => intro u hu; simp at hu; subst hu; rfl
        case c3 => unfold maxLen; omega
        case c4 => omega
        case c5 => have := hB.size; rw [size_alloc]; omega
        intro lv' wN hO4 hg4 _
        have hB4 := (na hB (.cells #[.int .i64 (4 * (v0 : Int) + 2 * (v1 : Int) + (v2 : Int))] 3)).grown hg4 (by rw [size_alloc]; have := hB.size; omega) (fun t e => by have := (hO.lt t e).1; omega)
        have hA4 := keptA (hA.past (.cells #[.int .i64 (4 * (v0 : Int) + 2 * (v1 : Int) + (v2 : Int))] 3)) hg4 (fun e => by have := (hO.lt _ e.symm).1; omega)
        have hO4 := own_snoc hO4
        clear hO hg4 hB hA
        rw [← Hx.out] at hO4
        go_wp2_with fail
        go_roundw
        case rel => exact ⟨k + 1, by omega, by rw [show 3 * (k + 1) = p + 3 by have := Hp.out; omega]; go_num, by rw [Hst1.out]; exact hO4, hA4, hB4⟩
        case measure => simp [intOf]; omega
      · rw [if_neg h6] at hst
        have Hst1 := Lib.hid hst; clear hst
        rw [decide_eq_false h6] at hlt2
        go_wp2_with fail
        go_quiet (fail)
        go_wp2_with fail
        go_roundw
        case rel => exact ⟨k + 1, by omega, by rw [show 3 * (k + 1) = p + 3 by have := Hp.out; omega]; go_num, by rw [Hst1.out]; exact ownN hO _, hA.drewN _, below_dn hB _⟩
        case measure => simp [intOf]; omega
    · obtain rfl : k = n / 3 := by omega
      have hit : decide (((3 * (n / 3) : Nat) : Int) + 3 ≤ (n : Int)) = false := decide_eq_false (by omega)
      have hitN : decide (3 * (n / 3) + 3 ≤ n) = false := decide_eq_false (by omega)
      have hsub : (n : Int) - ((3 * (n / 3) : Nat) : Int) = ((n % 3 : Nat) : Int) := by omega
      obtain ⟨A, c, rfl, hI⟩ := own_ints hO
      go_wp2_with fail
      refine bodyPost_ret (results_tmp3 rfl _ _ _) rfl ?_
      exact ⟨A, c, by first | rfl | (rw [← hsub]; rfl), hI, hB⟩


end ThrS
end Go.Proofs.Ytddnlbahelgadaa
