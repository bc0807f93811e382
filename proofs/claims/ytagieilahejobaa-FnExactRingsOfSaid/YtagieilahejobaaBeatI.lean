/-
  The table of who beats whom, in the program.
-/
import Derived.Test.YtagieilahejobaaRows
import Derived.Test.YtagieilahejobaaSafeI
import Derived.Test.YtagieilahejobaaSafeS
import Derived.Test.YtagieilahejobaaRowW
import Derived.Test.YtagieilahejobaaRowsL
import Derived.Test.YtagieilahejobaaQuietR
import Derived.Test.YtagieilahejobaaQuietD
import Derived.Test.YtagieilahejobaaBestI
import Derived.Test.YtagieilahejobaaBestS
import Derived.Test.YtagieilahejobaaShelfMax
import Derived.Test.YtagieilahejobaaTopW
import Derived.Test.YtagieilahejobaaManyW
import Derived.Test.YtagieilahejobaaDicesW
import Derived.Test.YtagieilahejobaaWaysW
import Derived.Test.YtagieilahejobaaKnow
import Derived.Test.YtagieilahejobaaCmpW
import Derived.Test.YtagieilahejobaaCompW
import Derived.Test.YtagieilahejobaaCompS
import Derived.Test.YtagieilahejobaaDuel
import Derived.Test.YtagieilahejobaaDieW
import Derived.Test.YtagieilahejobaaSortW
import Derived.Test.YtagieilahejobaaOpenD
import Derived.WalkKit
import Derived.WalkLawsBesides
import Derived.WalkSpells
import Derived.ProofKit
import Derived.OpenShut
import Derived.Deep.RegionWith
import Derived.Deep.QuietTactic
import Derived.BigQuiet
namespace Go.Proofs.Ytagieilahejobaa
open Go.ChangeShapes Go.WideShapes Go.ChangeAt Go.RowKit
open Go.ChangeMaps (open_string shut_string)

namespace BeatI
open Dice Arr OpenD DieW SortW Duel CmpW Know WaysW CompS CompW ManyW QuietD QuietR TopW DicesW BestS BestI RowsL RowW SafeS SafeI

/-- 1 if one beats the other, -1 if it is beaten, 0 if they are level. -/
def sg (P : Nat → Nat → Int) (i j : Nat) : Int := cmp3 (cw (P i) (P j) 36 0) (cw (P i) (P j) 36 2)
def LB (P : Nat → Nat → Int) (n i : Nat) : List Value := iv (sg P i) n
theorem iv_get {F : Nat → Int} {n k : Nat} (h : k < n) : (iv F n)[k]? = some (.int .i64 (F k)) := by simp [iv, h]
theorem infoL : (Try.prog.info? 51).map (fun i => (i.zero, i.size, i.bytes)) = some (some (.slice none 0 0), 1, 24) := by kernel_rfl
theorem sg_beats (P : Nat → Nat → Int) (i j : Nat) : decide (sg P i j = 1) = beats (P i) (P j) := by
  unfold sg cmp3 beats
  by_cases h1 : cw (P i) (P j) 36 0 < cw (P i) (P j) 36 2
  · rw [if_pos h1, decide_eq_false (show ¬ cw (P i) (P j) 36 2 < cw (P i) (P j) 36 0 by omega)]; rfl
  · rw [if_neg h1]
    by_cases h2 : cw (P i) (P j) 36 2 < cw (P i) (P j) 36 0
    · rw [if_pos h2, decide_eq_true h2]; rfl
    · rw [if_neg h2, decide_eq_false h2]; rfl

set_option maxRecDepth 100000 in
set_option maxHeartbeats 8000000 in
theorem beatTable_any (A : Option Addr) (n c : Nat) (P : Nat → Nat → Int) (w : World) (h : Row w A n P) (hn : n ≤ maxLen) :
    Calls Try.prog 23 #[.slice A n c] w fun e w' => ∃ v, e = .returned (.tuple #[v, .bool (many 6 n P)]) ∧ Below w.heap.size w w' ∧ (many 6 n P = true → ∃ gs cs, RowsAt w' w.heap.size 51 3 1 v n n (LB P n) gs cs) ∧ (many 6 n P = false → v = .slice none 0 0) := by
  have hr := compareRow_any A n c P w h hn
  clear h
  cases hq : many 6 n P
  · rw [hq] at hr
    have Hr := Lib.hid hr; clear hr hq
    go_enter Try.func23, Try.ntmps23
    go_wp2_with fail
    refine Hr.out.mono ?_
    rintro e w1 ⟨v, rfl, hb1, _, _⟩
    go_wp2_with fail
    go_ret2
    exact ⟨_, rfl, hb1, fun h => (by cases h), fun _ => rfl⟩
  · obtain ⟨h1, h6, _⟩ := of_many hq
    rw [hq] at hr
    have Hr := Lib.hid hr; clear hr hq
    have Hc := Lib.hid (fun x y w => cmp_any x y w)
    obtain ⟨i0, hi, hz0, hz1, hz2⟩ := info_parts info_int
    have Hi := Lib.hid (And.intro hi (And.intro hz0 (And.intro hz1 hz2)))
    clear hi hz0 hz1 hz2
    obtain ⟨iS, hi, hz0, hz1, hz2⟩ := info_parts infoL
    have HS := Lib.hid (And.intro hi (And.intro hz0 (And.intro hz1 hz2)))
    clear hi hz0 hz1 hz2
    have Hne : Hid ((3 : TypeId) ≠ 51) := by show (3 : TypeId) ≠ 51; decide
    go_enter Try.func23, Try.ntmps23
    go_wp2_with fail
    refine Hr.out.mono ?_
    rintro e w1 ⟨v, rfl, hB1, hrows, _⟩
    obtain ⟨gr, cr, hR⟩ := hrows trivial
    obtain ⟨g, cg, rfl, hg, hgl, hgc⟩ := hR.head h1
    have Hgc := Lib.hid hgc; clear hgc
    have HR := Lib.hid hR; clear hR hrows
    clear Hr
    go_wp2_with fail
    go_loopw [6, 21] (fun v kv wr => ∃ (k : Nat) (gs cs : Nat → Nat), k ≤ n ∧ kv = .int .i64 k ∧ RowsAt wr w1.heap.size 51 3 1 v k n (LB P n) gs cs ∧ Below w1.heap.size w1 wr) (fun _ kv _ => n - (intOf kv).toNat)
    case atStart => exact ⟨0, fun _ => 0, fun _ => 0, by omega, rfl, RowsAt.nil _ _ _ _ _ _ _ _ _, Below.refl _ _⟩
    case round =>
      obtain ⟨W0, rfl⟩ : ∃ W0, W0 = wr := ⟨wr, rfl⟩
      obtain ⟨i, gs, cs, hi, rfl, hT, hB⟩ := hrel
      by_cases hlt : i < n
      · have hit : decide (i < n) = true := decide_eq_true hlt
        have ci := (hB.cell (p := ⟨g, i, none⟩) hgl).trans (Hgc.out i hlt)
        have hl0 := (HR.out.inner_lt hlt).2
        have hsz := hB.size
        go_wp2_with fail
        clear ci
        go_loopw [9, 27] (fun v2 jv wx => ∃ j : Nat, j ≤ n ∧ jv = .int .i64 j ∧ wx.ownsRow W0.heap.size 3 1 v2 j (iv (sg P i) j) ∧ Below W0.heap.size W0 wx) (fun _ jv _ => n - (intOf jv).toNat)
        case atStart => exact ⟨0, by omega, rfl, World.ownsRow_nil _ _ _ _, Below.refl _ _⟩
        case round =>
          obtain ⟨j, hj, rfl, hO, hU⟩ := hrel
          have hBx := hB.trans (hU.mono hsz)
          have hsx := hU.size
          by_cases hlj : j < n
          · have hjt : decide (j < n) = true := decide_eq_true hlj
            have hcell : ∀ c, c < 3 → wr.cell? ⟨gr i, j * 3 + c, none⟩ = some (.int .i64 (cw (P i) (P j) 36 c)) := fun c hc =>
              (hBx.cell (p := ⟨gr i, j * 3 + c, none⟩) hl0).trans ((HR.out.cell hlt (by omega)).trans (L3_get P i n j c hlj hc))
            have c0 := hcell 0 (by omega)
            have c1 := hcell 1 (by omega)
            have c2 := hcell 2 (by omega)
            simp only [Nat.add_zero] at c0
            clear hcell hBx
            have Hcj := Lib.hid (Hc.out (cw (P i) (P j) 36 0) (cw (P i) (P j) 36 2))
            have hO1 := hO.alloc (.cells #[.int .i64 (cw (P i) (P j) 36 0), .int .i64 (cw (P i) (P j) 36 1), .int .i64 (cw (P i) (P j) 36 2)] 23)
            have hU1 := na hU (.cells #[.int .i64 (cw (P i) (P j) 36 0), .int .i64 (cw (P i) (P j) 36 1), .int .i64 (cw (P i) (P j) 36 2)] 23)
            clear hO hU
            go_wp2_with fail
            refine (Hcj.out _).mono ?_
            rintro e wy ⟨rfl, rfl⟩
            clear c0 c1 c2
            generalize wr.alloc (.cells #[.int .i64 (cw (P i) (P j) 36 0), .int .i64 (cw (P i) (P j) 36 1), .int .i64 (cw (P i) (P j) 36 2)] 23) = wy at hO1 hU1 ⊢
            have hsy := hU1.size
            go_wp2_with (at_builtin; refine wpList_append_own _ rfl _ _ 51 rfl W0.heap.size 3 i0 (.int .i64 0) 1 8 Try.underlying51 Hi.out.1 Hi.out.2.1 Hi.out.2.2.1 Hi.out.2.2.2 rfl (by decide) _ _ _ rfl (hO1.alloc _) ⟨wy.heap.size, 0, none⟩ 1 1 [.int .i64 (cmp3 (cw (P i) (P j) 36 0) (cw (P i) (P j) 36 2))] rfl rfl ?c1 ?c2 ?c3 ?c4 ?c5 ?_)
            case c1 =>
              intro t u ht
              match t, ht with
              | 0, ht => simp at ht; subst ht; simp [Addr.add]
            case c2 => intro u hu; simp at hu; subst hu; rfl
            case c3 => unfold maxLen; omega
            case c4 => omega
            case c5 => simp; omega
            · intro v' w4 hO4 hg4 _
              have hU4 := (na hU1 (.cells #[.int .i64 (cmp3 (cw (P i) (P j) 36 0) (cw (P i) (P j) 36 2))] 3)).grown hg4 (by rw [size_alloc]; omega) (fun k e => (hO1.lt k e).1)
              have hO5 : w4.ownsRow W0.heap.size 3 1 v' (j + 1) (iv (sg P i) (j + 1)) := by rw [iv_succ]; exact hO4
              clear hg4 hO4 hO1 hU1
              go_wp2_with fail
              go_roundw
              case rel => exact ⟨j + 1, by omega, by go_num, hO5, hU4⟩
              case measure => simp [intOf]; omega
          · obtain rfl : j = n := by omega
            obtain ⟨g2, c2, rfl, hg2⟩ := shape_own hO h1
            have hTx := hT.up hU
            have hlg : ∀ t, t < i → gs t < g2 := fun t ht => by have := (hT.inner_lt ht).2; omega
            have hOm := own_base hO hsz
            have hsx1 : w1.heap.size ≤ wr.heap.size := hBx.size
            clear hU hO hT
            go_wp2_with (at_builtin; refine wpList_append_own _ rfl _ _ 33 rfl w1.heap.size 51 iS (.slice none 0 0) 1 24 Try.underlying33 HS.out.1 HS.out.2.1 HS.out.2.2.1 HS.out.2.2.2 rfl (by decide) _ _ _ rfl (hTx.out.alloc _) ⟨wr.heap.size, 0, none⟩ 1 1 [.slice (some ⟨g2, 0, none⟩) j c2] rfl rfl ?e1 ?e2 ?e3 ?e4 ?e5 ?_)
            case e1 =>
              intro t u ht
              match t, ht with
              | 0, ht => simp at ht; subst ht; simp [Addr.add]
            case e2 => intro u hu; simp at hu; subst hu; rfl
            case e3 => unfold maxLen; omega
            case e4 => omega
            case e5 => simp; omega
            · intro v' w4 hO4 hg4 _
              have hBz := (hBx.alloc hsx1 (.cells #[.slice (some ⟨g2, 0, none⟩) j c2] 51)).grown hg4 (by rw [size_alloc]; omega) (fun k e => (hTx.out.lt k e).1)
              have hTz := (hTx.up (na (n0 _) (.cells #[.slice (some ⟨g2, 0, none⟩) j c2] 51))).snoc Hne.out (hOm.alloc _) hlg hg4 hO4
              clear hg4 hO4 hTx hOm hlg hBx
              go_wp2_with fail
              go_roundw
              case rel => exact ⟨i + 1, _, _, by omega, by go_num, hTz, hBz⟩
              case measure => simp [intOf]; omega
      · obtain rfl : i = n := by omega
        go_wp2_with fail
        go_ret2
        exact ⟨_, rfl, hB1.trans (hB.mono hB1.size), fun _ => ⟨gs, cs, hT.base hB1.size⟩, fun h => (by cases h)⟩


end BeatI
end Go.Proofs.Ytagieilahejobaa
