/-
  The first best die of a row against a die, in the program.
-/
import Derived.Test.YtagieilahejobaaRows
import Derived.Test.YtagieilahejobaaBestS
import Derived.Test.YtagieilahejobaaShelfMax
import Derived.Test.YtagieilahejobaaQuietR
import Derived.Test.YtagieilahejobaaQuietD
import Derived.Test.YtagieilahejobaaTopW
import Derived.Test.YtagieilahejobaaManyW
import Derived.Test.YtagieilahejobaaDicesW
import Derived.Test.YtagieilahejobaaWaysW
import Derived.Test.YtagieilahejobaaKnow
import Derived.Test.YtagieilahejobaaCmpW
import Derived.Test.YtagieilahejobaaCompS
import Derived.Test.YtagieilahejobaaDuel
import Derived.Test.YtagieilahejobaaDieW
import Derived.Test.YtagieilahejobaaSortW
import Derived.Test.YtagieilahejobaaOpenD
import Derived.WalkKit
import Derived.WalkLawsBesides
import Derived.WalkSpells
import Derived.ProofKit
import Derived.OpenShut
import Derived.Deep.RegionWith
import Derived.Deep.QuietTactic
import Derived.BigQuiet
namespace Go.Proofs.Ytagieilahejobaa
open Go.ChangeShapes Go.WideShapes Go.ChangeAt Go.RowKit
open Go.ChangeMaps (open_string shut_string)

namespace BestI
open Dice Arr OpenD DieW SortW Duel CmpW Know WaysW CompS ManyW QuietD QuietR TopW DicesW BestS

theorem info_int : (Try.prog.info? 3).map (fun i => (i.zero, i.size, i.bytes)) = some (some (.int .i64 0), 1, 8) := by kernel_rfl
/-- The numbers of a list as values. -/
def iv (F : Nat → Int) (n : Nat) : List Value := (List.range n).map fun k => .int .i64 (F k)
theorem iv_succ (F : Nat → Int) (n : Nat) : iv F (n + 1) = iv F n ++ [.int .i64 (F n)] := by simp [iv, List.range_succ]
theorem owned_ne {w : World} {B s n m : Nat} {e : TypeId} {v : Value} {xs : List Value} (h : w.ownsRow B e s v n xs) (hm : m < B) : v.ownBlock = none ∨ v.ownBlock ≠ some m := by
  cases hv : v.ownBlock with
  | none => exact .inl rfl
  | some q => exact .inr (fun e => by have := (h.lt q hv).1; injection e with e; omega)
theorem own_ne {w : World} {B s n m : Nat} {e : TypeId} {v : Value} {xs : List Value} (h : w.ownsRow B e s v n xs) (hm : m < B) : some m ≠ v.ownBlock := fun e => by
  have := (h.lt m e.symm).1
  omega
theorem At.kept' {w w' : World} {b n : Nat} {row : Option Nat} {f : Nat → Int} (h : At w b n f) (hg : w.grownBy w' row) (hb : some b ≠ row) : At w' b n f := WaysW.At.same h hg.size (hg.block b h.lt hb)
theorem Known.kept' {w w' : World} {m n : Nat} {row : Option Nat} (h : Known w m n) (hg : w.grownBy w' row) (hb : some m ≠ row) : Known w' m n := h.same (hg.block m h.lt hb)
theorem at_owned {w : World} {B : Nat} {v : Value} {n : Nat} {F : Nat → Int} (h : w.ownsRow B 3 1 v (n + 1) (iv F (n + 1))) : ∃ g c, v = .slice (some ⟨g, 0, none⟩) (n + 1) c ∧ B ≤ g ∧ At w g (n + 1) F := by
  rcases h.2 with ⟨_, h0⟩ | ⟨g, cap, cur, rfl, hb, hg, hnc, hcm, hcs, htake⟩
  · omega
  · have hl : g < w.heap.size := (Array.getElem?_eq_some_iff.1 hg).1
    refine ⟨g, cap, rfl, hb, hl, fun k hk => ?_, fun k => ?_⟩
    · rw [cell_of_row w g k cur _ (0, 0) hg]
      have e : (cur.toList.take ((n + 1) * 1))[k]? = (iv F (n + 1))[k]? := by rw [htake]
      rw [List.getElem?_take, if_pos (by omega)] at e
      simp only [iv, List.getElem?_map, List.getElem?_range hk, Option.map_some] at e
      simpa using e
    · have e : w.heap[(⟨g, k, none⟩ : Addr).block]? = some (.cells cur 3 (0, 0)) := hg
      simp [World.frozen?, e]

set_option maxRecDepth 100000 in
set_option maxHeartbeats 4000000 in
theorem implBest_any (A : Option Addr) (n c : Nat) (P : Nat → Nat → Int) (d : Nat → Int) (w : World) (h : Row w A n P) (hn : n ≤ maxLen) :
    Calls Try.prog 39 #[.slice A n c, dv d] w fun e w' => e = .returned (.tuple (outT n P d)) ∧ Below w.heap.size w w' := by
  have hr := fun w h => isRow_any A n c P w h hn
  have hb := implIsDie_any d
  have hD := At.new6 w d 22 (b := w.heap.size) rfl
  have hB := na (n0 w) (sixO d 22)
  have H := Lib.hid h; clear h
  unfold outT okT
  cases hq : many 6 n P
  · rw [hq] at hr
    simp only [Bool.false_and, Bool.false_eq_true, ↓reduceIte]
    have Hr := Lib.hid hr; clear hr hb hq
    unfold dv
    go_enter Try.func39, Try.ntmps39
    go_wp2_with fail
    refine (Hr.out _ (H.out.up hB)).mono ?_
    rintro e w1 ⟨rfl, hb1⟩
    go_wp2_with fail
    go_ret3
    exact ⟨rfl, nx hB hb1⟩
  obtain ⟨h1, h6, hp⟩ := of_many hq
  cases hqd : isDie d
  · rw [hq] at hr
    rw [hqd] at hb
    simp only [Bool.and_false, Bool.false_eq_true, ↓reduceIte]
    unfold dv at hb
    have Hr := Lib.hid hr; clear hr hq
    have Hb := Lib.hid hb; clear hb hqd hp
    unfold dv
    go_enter Try.func39, Try.ntmps39
    go_wp2_with fail
    refine (Hr.out _ (H.out.up hB)).mono ?_
    rintro e w1 ⟨rfl, hb1⟩
    obtain ⟨x0, x1, x2, x3, x4, x5⟩ := (hD.up hb1).six
    go_wp2_with fail
    refine (Hb.out _).mono ?_
    rintro e w2 ⟨rfl, hb2⟩
    go_wp2_with fail
    go_ret3
    exact ⟨rfl, nx (nx hB hb1) hb2⟩
  · rw [hq] at hr
    rw [hqd] at hb
    simp only [Bool.and_self, ↓reduceIte]
    unfold dv at hb
    have Hfd := Lib.hid (fits_die hqd)
    have Hfp : Hid (∀ i, i < n → fits6 (P i)) := fun i hi => fits_die (hp i hi)
    have hw := fun x fx m n hn w hK => waysOf_any x d fx Hfd.out m n hn w hK
    unfold dv tri at hw
    have Hw := Lib.hid hw; clear hw
    have Hm := Lib.hid (fun g n c hn w hA => firstMost_any (G P d) (G_nn P d) g n c hn w hA)
    have Hr := Lib.hid hr; clear hr hq
    have Hb := Lib.hid hb; clear hb hqd hp
    obtain ⟨i0, hi, hz0, hz1, hz2⟩ := info_parts info_int
    have Hi := Lib.hid (And.intro hi (And.intro hz0 (And.intro hz1 hz2)))
    clear hi hz0 hz1 hz2
    unfold dv
    go_enter Try.func39, Try.ntmps39
    go_wp2_with fail
    refine (Hr.out _ (H.out.up hB)).mono ?_
    rintro e w1 ⟨rfl, hb1⟩
    obtain ⟨x0, x1, x2, x3, x4, x5⟩ := (hD.up hb1).six
    go_wp2_with fail
    refine (Hb.out _).mono ?_
    rintro e w2 ⟨rfl, hb2⟩
    have hD2 := ((hD.up hb1).up hb2).past (.map #[] 0)
    have hB2 := na (nx (nx hB hb1) hb2) (.map #[] 0)
    have hK2 := Known.made w2
    have hl2 : w.heap.size < w2.heap.size := ((hD.up hb1).up hb2).lt
    have hs2 : (w2.alloc (.map #[] 0)).heap.size = w2.heap.size + 1 := by rw [size_alloc]
    clear hb1 hb2 hD hB x0 x1 x2 x3 x4 x5
    have hmm := @run_makeMap Try.prog
    go_wp2_with fail
    clear hmm
    generalize w2.alloc (.map #[] 0) = W at hD2 hB2 hK2 hs2 ⊢
    generalize w2.heap.size = m at hK2 hl2 hs2 ⊢
    have Hsm := Lib.hid hs2; clear hs2
    go_loopw [8, 24] (fun v kv wr => ∃ k : Nat, k ≤ n ∧ kv = .int .i64 k ∧ wr.ownsRow (m + 1) 3 1 v k (iv (G P d) k) ∧ Known wr m (2 * k) ∧ Below w.heap.size w wr ∧ At wr w.heap.size 6 d ∧ m + 1 ≤ wr.heap.size) (fun _ kv _ => n - (intOf kv).toNat)
    case atStart => exact ⟨0, by omega, rfl, World.ownsRow_nil _ _ _ _, hK2, hB2, hD2, Nat.le_of_eq Hsm.out.symm⟩
    case round =>
      clear hB2 hD2 hK2
      obtain ⟨k, hk, rfl, hO, hK, hB, hD, hsz⟩ := hrel
      by_cases hlt : k < n
      · obtain ⟨bk, o, rfl, hbk, hc⟩ := (H.out.below (Nat.le_refl _) hB).at_ hlt
        have c0 := hc 0 (by omega)
        have c1 := hc 1 (by omega)
        have c2 := hc 2 (by omega)
        have c3 := hc 3 (by omega)
        have c4 := hc 4 (by omega)
        have c5 := hc 5 (by omega)
        simp only [← Nat.add_assoc, Nat.add_zero] at c0 c1 c2 c3 c4 c5
        obtain ⟨x0, x1, x2, x3, x4, x5⟩ := (hD.past (sixO (P k) 22)).six
        have hKp := hK.up (na (n0 wr) (sixO (P k) 22))
        have Hwk := Lib.hid (Hw.out (P k) (Hfp.out k hlt) m (2 * k) (by omega) _ hKp)
        go_wp2_with fail
        refine Hwk.out.mono ?_
        rintro e w3 ⟨rfl, hK3, hg3⟩
        have hB3 : Below w.heap.size w w3 := (na hB (sixO (P k) 22)).grown hg3 (by have := hB.size; rw [size_alloc]; omega) (fun j e => by injection e with e; subst e; omega)
        have hD3 := At.kept (hD.past (sixO (P k) 22)) hg3 (by omega)
        have hO3 := (hO.alloc (sixO (P k) 22)).kept hg3 (owned_ne (hO.alloc (sixO (P k) 22)) (Nat.lt_succ_self m))
        have hs3 : m + 1 ≤ w3.heap.size := Nat.le_trans hsz (Nat.le_trans (by rw [size_alloc]; omega) hg3.size)
        have hix := idx3 (cw (P k) d 36)
        clear hg3 hK hKp hO hD hB c0 c1 c2 c3 c4 c5 x0 x1 x2 x3 x4 x5 hc
        go_wp2_with (at_builtin; refine wpList_append_own _ rfl _ _ 51 rfl (m + 1) 3 i0 (.int .i64 0) 1 8 Try.underlying51 Hi.out.1 Hi.out.2.1 Hi.out.2.2.1 Hi.out.2.2.2 rfl (by decide) _ _ _ rfl (hO3.alloc _) ⟨w3.heap.size, 0, none⟩ 1 1 [.int .i64 (cw (P k) d 36 0)] rfl rfl ?c1 ?c2 ?c3 ?c4 ?c5 ?_)
        case c1 =>
          intro j u hj
          match j, hj with
          | 0, hj => simp at hj; subst hj; simp [Addr.add]
        case c2 => intro u hu; simp at hu; subst hu; rfl
        case c3 => unfold maxLen; omega
        case c4 => omega
        case c5 => simp; omega
        · intro v' w4 hO4 hg4 _
          have hB4 := (na hB3 _).grown hg4 (by have := hB3.size; rw [size_alloc]; omega) (fun j e => by have := (hO3.lt j e).1; omega)
          have hD4 := At.kept' (hD3.past _) hg4 (own_ne hO3 (by omega))
          have hK4 := Known.kept' (hK3.up (na (n0 w3) _)) hg4 (own_ne hO3 (Nat.lt_succ_self m))
          have hs4 : m + 1 ≤ w4.heap.size := Nat.le_trans hs3 (Nat.le_trans (by rw [size_alloc]; omega) hg4.size)
          have hO5 : w4.ownsRow (m + 1) 3 1 v' (k + 1) (iv (G P d) (k + 1)) := by rw [iv_succ]; exact hO4
          clear hg4 hO4 hO3 hK3 hD3 hB3
          go_wp2_with fail
          go_roundw
          case rel => exact ⟨k + 1, by omega, by go_num, hO5, hK4, hB4, hD4, hs4⟩
          case measure => simp [intOf]; omega
      · obtain rfl : k = n := by omega
        obtain ⟨q, rfl⟩ : ∃ q, k = q + 1 := ⟨k - 1, by omega⟩
        obtain ⟨g, c', rfl, hg, hA⟩ := at_owned hO
        go_wp2_with fail
        refine (Hm.out g q c' (by omega) _ hA).mono ?_
        rintro e w3 ⟨rfl, rfl⟩
        go_wp2_with fail
        go_ret3
        exact ⟨rfl, hB⟩


end BestI
end Go.Proofs.Ytagieilahejobaa
