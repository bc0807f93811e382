/-
  The ways of each die of a row against each die of it, in the program.
-/
import Derived.Test.YtagieilahejobaaRows
import Derived.Test.YtagieilahejobaaRowsL
import Derived.Test.YtagieilahejobaaQuietR
import Derived.Test.YtagieilahejobaaBestI
import Derived.Test.YtagieilahejobaaBestS
import Derived.Test.YtagieilahejobaaShelfMax
import Derived.Test.YtagieilahejobaaTopW
import Derived.Test.YtagieilahejobaaManyW
import Derived.Test.YtagieilahejobaaDicesW
import Derived.Test.YtagieilahejobaaWaysW
import Derived.Test.YtagieilahejobaaKnow
import Derived.Test.YtagieilahejobaaCmpW
import Derived.Test.YtagieilahejobaaDuel
import Derived.Test.YtagieilahejobaaDieW
import Derived.Test.YtagieilahejobaaSortW
import Derived.Test.YtagieilahejobaaOpenD
import Derived.WalkKit
import Derived.WalkLawsBesides
import Derived.WalkSpells
import Derived.ProofKit
import Derived.OpenShut
import Derived.Deep.RegionWith
import Derived.Deep.QuietTactic
import Derived.BigQuiet
namespace Go.Proofs.Ytagieilahejobaa
open Go.ChangeShapes Go.WideShapes Go.ChangeAt Go.RowKit
open Go.ChangeMaps (open_string shut_string)

namespace RowW
open Dice Arr OpenD DieW SortW Duel CmpW Know WaysW ManyW QuietR TopW DicesW BestS BestI RowsL

theorem But.own {H m : Nat} {w w' w'' : World} {row : Option Nat} (h : But H m w w') (hH : H ≤ w'.heap.size) (hg : w'.grownBy w'' row) (hr : ∀ k, row = some k → H ≤ k) : But H m w w'' :=
  ⟨hg.os.trans h.os, hg.tape.trans h.tape, hg.output.trans h.output, Nat.le_trans h.size hg.size, fun k hk hm => (hg.block k (by omega) (fun e => by have := hr k e.symm; omega)).trans (h.block k hk hm)⟩
theorem info3 : (Try.prog.info? 23).map (fun i => (i.zero, i.size, i.bytes)) = some (some (.agg #[.int .i64 0, .int .i64 0, .int .i64 0]), 3, 24) := by kernel_rfl
theorem infoS : (Try.prog.info? 66).map (fun i => (i.zero, i.size, i.bytes)) = some (some (.slice none 0 0), 1, 24) := by kernel_rfl
/-- Three numbers as cells. -/
def w3 (f : Nat → Int) : List Value := [.int .i64 (f 0), .int .i64 (f 1), .int .i64 (f 2)]
/-- The ways of one die of a row against the first j dice. -/
def L3 (P : Nat → Nat → Int) (j i : Nat) : List Value := (List.range j).flatMap fun t => w3 (cw (P i) (P t) 36)
theorem L3_succ (P : Nat → Nat → Int) (j i : Nat) : L3 P (j + 1) i = L3 P j i ++ w3 (cw (P i) (P j) 36) := by simp [L3, List.range_succ]
theorem L3_len (P : Nat → Nat → Int) (i : Nat) : ∀ j, (L3 P j i).length = 3 * j := by
  intro j
  induction j with
  | zero => rfl
  | succ j ih => rw [L3_succ, List.length_append, ih]; simp [w3]; omega
theorem L3_get (P : Nat → Nat → Int) (i : Nat) : ∀ n j c, j < n → c < 3 → (L3 P n i)[j * 3 + c]? = some (.int .i64 (cw (P i) (P j) 36 c)) := by
  intro n
  induction n with
  | zero => intro j c hj; omega
  | succ n ih =>
    intro j c hj hc
    rw [L3_succ]
    by_cases hjn : j < n
    · rw [List.getElem?_append_left (by rw [L3_len]; omega)]
      exact ih j c hjn hc
    · obtain rfl : j = n := by omega
      rw [List.getElem?_append_right (by rw [L3_len]; omega), L3_len, show j * 3 + c - 3 * j = c by omega]
      obtain rfl | rfl | rfl : c = 0 ∨ c = 1 ∨ c = 2 := by omega
      all_goals rfl
theorem shape_own {w : World} {B s n : Nat} {e : TypeId} {v : Value} {xs : List Value} (h : w.ownsRow B e s v n xs) (hn : 1 ≤ n) : ∃ g c, v = .slice (some ⟨g, 0, none⟩) n c ∧ B ≤ g := by
  rcases h.2 with ⟨_, h0⟩ | ⟨g, cap, cur, rfl, hb, _⟩
  · omega
  · exact ⟨g, cap, rfl, hb⟩

set_option maxRecDepth 100000 in
set_option maxHeartbeats 8000000 in
theorem compareRow_any (A : Option Addr) (n c : Nat) (P : Nat → Nat → Int) (w : World) (h : Row w A n P) (hn : n ≤ maxLen) :
    Calls Try.prog 59 #[.slice A n c] w fun e w' => ∃ v, e = .returned (.tuple #[v, .bool (many 6 n P)]) ∧ Below w.heap.size w w' ∧ (many 6 n P = true → ∃ gs cs, RowsAt w' w.heap.size 66 23 3 v n n (L3 P n) gs cs) ∧ (many 6 n P = false → v = .slice none 0 0) := by
  have hr := fun w h => isRow_any A n c P w h hn
  have H := Lib.hid h; clear h
  cases hq : many 6 n P
  · rw [hq] at hr
    have Hr := Lib.hid hr; clear hr hq
    go_enter Try.func59, Try.ntmps59
    go_wp2_with fail
    refine (Hr.out _ H.out).mono ?_
    rintro e w1 ⟨rfl, hb1⟩
    go_wp2_with fail
    go_ret2
    exact ⟨_, rfl, hb1, fun h => (by cases h), fun _ => rfl⟩
  · obtain ⟨h1, h6, hp⟩ := of_many hq
    rw [hq] at hr
    have Hr := Lib.hid hr; clear hr hq
    have Hfp : Hid (∀ i, i < n → fits6 (P i)) := fun i hi => fits_die (hp i hi)
    clear hp
    have hw := fun x y fx fy m n hn w hK => waysOf_any x y fx fy m n hn w hK
    unfold dv tri at hw
    have Hw := Lib.hid hw; clear hw
    obtain ⟨i3, hi, hz0, hz1, hz2⟩ := info_parts info3
    have H3 := Lib.hid (And.intro hi (And.intro hz0 (And.intro hz1 hz2)))
    clear hi hz0 hz1 hz2
    obtain ⟨iS, hi, hz0, hz1, hz2⟩ := info_parts infoS
    have HS := Lib.hid (And.intro hi (And.intro hz0 (And.intro hz1 hz2)))
    clear hi hz0 hz1 hz2
    have Hne : Hid ((23 : TypeId) ≠ 66) := by show (23 : TypeId) ≠ 66; decide
    go_enter Try.func59, Try.ntmps59
    go_wp2_with fail
    refine (Hr.out _ H.out).mono ?_
    rintro e w2 ⟨rfl, hb1⟩
    have hB2 := na hb1 (.map #[] 0)
    have hK2 := Known.made w2
    have hl2 : w.heap.size ≤ w2.heap.size := hb1.size
    have hs2 : (w2.alloc (.map #[] 0)).heap.size = w2.heap.size + 1 := by rw [size_alloc]
    clear hb1
    have hmm := @run_makeMap Try.prog
    go_wp2_with fail
    clear hmm
    generalize w2.alloc (.map #[] 0) = W at hB2 hK2 hs2 ⊢
    generalize w2.heap.size = m at hK2 hl2 hs2 ⊢
    have Hsm := Lib.hid hs2; clear hs2
    go_loopw [5, 17] (fun v iv wr => ∃ (i : Nat) (gs cs : Nat → Nat), i ≤ n ∧ iv = .int .i64 i ∧ RowsAt wr (m + 1) 66 23 3 v i n (L3 P n) gs cs ∧ Known wr m (12 * i) ∧ Below w.heap.size w wr ∧ m + 1 ≤ wr.heap.size) (fun _ iv _ => n - (intOf iv).toNat)
    case atStart => exact ⟨0, fun _ => 0, fun _ => 0, by omega, rfl, RowsAt.nil _ _ _ _ _ _ _ _ _, hK2, hB2, Nat.le_of_eq Hsm.out.symm⟩
    case round =>
      clear hB2 hK2
      obtain ⟨i, gs, cs, hi, rfl, hR, hK, hB, hsz⟩ := hrel
      by_cases hlt : i < n
      · obtain ⟨bk, o, hAeq, hbk, hc⟩ := H.out.at_ hlt
        have hcw : ∀ t, t < n → ∀ k, k < 6 → w.cell? ⟨bk, o + (t * 6 + k), none⟩ = some (.int .i64 (P t k)) := by
          intro t ht k hk
          obtain ⟨bk', o', hA', _, hc'⟩ := H.out.at_ ht
          rw [hAeq] at hA'
          injection hA' with hA'
          injection hA' with e1 e2 _
          subst e1
          subst e2
          exact hc' k hk
        subst hAeq
        have Hcw := Lib.hid hcw; clear hcw hc
        have hit : decide (i < n) = true := decide_eq_true hlt
        have hci := at_row (i := i) (fun k hk => Hcw.out i hlt k hk) hbk hB
        have c0 := hci 0 (by omega)
        have c1 := hci 1 (by omega)
        have c2 := hci 2 (by omega)
        have c3 := hci 3 (by omega)
        have c4 := hci 4 (by omega)
        have c5 := hci 5 (by omega)
        simp only [Nat.add_zero] at c0 c1 c2 c3 c4 c5
        have hN0 := At.new6 wr (P i) 22 (b := wr.heap.size) rfl
        have hB0 := na hB (sixO (P i) 22)
        have hR0 := hR.up (na (n0 wr) (sixO (P i) 22))
        have hK0 := hK.up (na (n0 wr) (sixO (P i) 22))
        have hs0 : (wr.alloc (sixO (P i) 22)).heap.size = wr.heap.size + 1 := by rw [size_alloc]
        clear hci
        go_wp2_with fail
        clear c0 c1 c2 c3 c4 c5 hR hK hB
        generalize wr.alloc (sixO (P i) 22) = W0 at hN0 hB0 hR0 hK0 hs0 ⊢
        generalize wr.heap.size = q at hN0 hsz hs0 ⊢
        have Hs0 := Lib.hid hs0; clear hs0
        go_loopw [8, 23] (fun v2 jv wx => ∃ j : Nat, j ≤ n ∧ jv = .int .i64 j ∧ wx.ownsRow (q + 1) 23 3 v2 j (L3 P j i) ∧ Known wx m (12 * i + 2 * j) ∧ But (q + 1) m W0 wx ∧ q + 1 ≤ wx.heap.size) (fun _ jv _ => n - (intOf jv).toNat)
        case atStart => exact ⟨0, by omega, rfl, World.ownsRow_nil _ _ _ _, hK0, But.of (Below.refl _ _), Nat.le_of_eq Hs0.out.symm⟩
        case round =>
          obtain ⟨j, hj, rfl, hO, hK, hU, hsx⟩ := hrel
          have hU0 : W0.grownBy _ (some m) := But.out (by rw [Hs0.out]; exact hU)
          have hBx := hB0.grown hU0 (by rw [Hs0.out]; omega) (fun k e => by injection e with e; omega)
          have hNx := At.kept hN0 hU0 (by omega)
          by_cases hlj : j < n
          · have hjt : decide (j < n) = true := decide_eq_true hlj
            have hcj := at_row (i := j) (fun k hk => Hcw.out j hlj k hk) hbk hBx
            have c0 := hcj 0 (by omega)
            have c1 := hcj 1 (by omega)
            have c2 := hcj 2 (by omega)
            have c3 := hcj 3 (by omega)
            have c4 := hcj 4 (by omega)
            have c5 := hcj 5 (by omega)
            simp only [Nat.add_zero] at c0 c1 c2 c3 c4 c5
            obtain ⟨x0, x1, x2, x3, x4, x5⟩ := (hNx.past (sixO (P j) 22)).six
            have hKp := hK.up (na (n0 _) (sixO (P j) 22))
            have Hwk := Lib.hid (Hw.out (P i) (P j) (Hfp.out i hlt) (Hfp.out j hlj) m (12 * i + 2 * j) (by omega) _ hKp)
            have hU1 := hU.below ((Below.refl (q + 1) _).alloc hsx (sixO (P j) 22))
            have hO1 := hO.alloc (sixO (P j) 22)
            have hs1 := Nat.le_trans hsx (Nat.le_trans (Nat.le_succ _) (Nat.le_of_eq (size_alloc _ (sixO (P j) 22)).symm))
            clear hcj hU0 hBx hNx hU hO hK hKp hsx
            go_wp2_with fail
            clear c0 c1 c2 c3 c4 c5 x0 x1 x2 x3 x4 x5
            refine Hwk.out.mono ?_
            rintro e wy ⟨rfl, hK3, hg3⟩
            have hO3 := hO1.kept hg3 (owned_ne hO1 (by omega))
            have hU3 := hU1.grown hs1 hg3
            have hs3 : q + 1 ≤ wy.heap.size := Nat.le_trans hs1 hg3.size
            clear hO1 hU1 hg3 hs1
            go_wp2_with (at_builtin; refine wpList_append_own _ rfl _ _ 66 rfl (q + 1) 23 i3 (.agg #[.int .i64 0, .int .i64 0, .int .i64 0]) 3 24 Try.underlying66 H3.out.1 H3.out.2.1 H3.out.2.2.1 H3.out.2.2.2 rfl (by decide) _ _ _ rfl (hO3.alloc _) ⟨wy.heap.size, 0, none⟩ 1 1 (w3 (cw (P i) (P j) 36)) rfl rfl ?c1 ?c2 ?c3 ?c4 ?c5 ?_)
            case c1 =>
              intro t u ht
              match t, ht with
              | 0, ht => simp [w3] at ht; subst ht; simp [Addr.add]
              | 1, ht => simp [w3] at ht; subst ht; simp [Addr.add]
              | 2, ht => simp [w3] at ht; subst ht; simp [Addr.add]
            case c2 => intro u hu; simp [w3] at hu; rcases hu with rfl | rfl | rfl <;> rfl
            case c3 => unfold maxLen; omega
            case c4 => omega
            case c5 => simp; omega
            · intro v' w4 hO4 hg4 _
              have hU4 := But.own (hU3.below ((Below.refl (q + 1) _).alloc hs3 (.cells (w3 (cw (P i) (P j) 36)).toArray 23))) (by rw [size_alloc]; omega) hg4 (fun k e => (hO3.lt k e).1)
              have hK4 := Known.kept' (hK3.up (na (n0 wy) _)) hg4 (own_ne hO3 (by omega))
              have hs4 : q + 1 ≤ w4.heap.size := Nat.le_trans hs3 (Nat.le_trans (by rw [size_alloc]; omega) hg4.size)
              have hO5 : w4.ownsRow (q + 1) 23 3 v' (j + 1) (L3 P (j + 1) i) := by rw [L3_succ]; exact hO4
              clear hg4 hO4 hO3 hK3 hU3
              go_wp2_with fail
              go_roundw
              case rel => exact ⟨j + 1, by omega, by go_num, hO5, hK4.mono (by omega), hU4, hs4⟩
              case measure => simp [intOf]; omega
          · obtain rfl : j = n := by omega
            obtain ⟨g2, c2, rfl, hg2⟩ := shape_own hO h1
            have hRx := hR0.kept hU0 (Nat.lt_succ_self m)
            have hlg : ∀ t, t < i → gs t < g2 := fun t ht => by have := (hR0.inner_lt ht).2; rw [Hs0.out] at this; omega
            have hOm := own_base hO (show m + 1 ≤ q + 1 by omega)
            clear hU0 hU hO hNx hR0 hK0 hB0 hN0
            go_wp2_with (at_builtin; refine wpList_append_own _ rfl _ _ 63 rfl (m + 1) 66 iS (.slice none 0 0) 1 24 Try.underlying63 HS.out.1 HS.out.2.1 HS.out.2.2.1 HS.out.2.2.2 rfl (by decide) _ _ _ rfl (hRx.out.alloc _) ⟨wr.heap.size, 0, none⟩ 1 1 [.slice (some ⟨g2, 0, none⟩) j c2] rfl rfl ?e1 ?e2 ?e3 ?e4 ?e5 ?_)
            case e1 =>
              intro t u ht
              match t, ht with
              | 0, ht => simp at ht; subst ht; simp [Addr.add]
            case e2 => intro u hu; simp at hu; subst hu; rfl
            case e3 => unfold maxLen; omega
            case e4 => omega
            case e5 => simp; omega
            · intro v' w4 hO4 hg4 _
              have hBz := (na hBx (.cells #[.slice (some ⟨g2, 0, none⟩) j c2] 66)).grown hg4 (by have := hBx.size; rw [size_alloc]; omega) (fun k e => by have := (hRx.out.lt k e).1; omega)
              have hKz := Known.kept' (hK.up (na (n0 _) (.cells #[.slice (some ⟨g2, 0, none⟩) j c2] 66))) hg4 (own_ne hRx.out (Nat.lt_succ_self m))
              have hRz := (hRx.up (na (n0 _) (.cells #[.slice (some ⟨g2, 0, none⟩) j c2] 66))).snoc Hne.out (hOm.alloc _) hlg hg4 hO4
              have hsz4 : m + 1 ≤ w4.heap.size := Nat.le_trans (by omega) (Nat.le_trans hsx (Nat.le_trans (Nat.le_trans (Nat.le_succ _) (Nat.le_of_eq (size_alloc _ (.cells #[.slice (some ⟨g2, 0, none⟩) j c2] 66)).symm)) hg4.size))
              clear hg4 hO4 hRx hOm hlg hK hBx
              go_wp2_with fail
              go_roundw
              case rel => exact ⟨i + 1, _, _, by omega, by go_num, hRz, hKz.mono (by omega), hBz, hsz4⟩
              case measure => simp [intOf]; omega
      · obtain rfl : i = n := by omega
        go_wp2_with fail
        go_ret2
        exact ⟨_, rfl, hB, fun _ => ⟨gs, cs, hR.base (by omega)⟩, fun h => (by cases h)⟩


end RowW
end Go.Proofs.Ytagieilahejobaa
