/-
  The draws of a pool.
-/
import Derived.Test.YtbcaahaaaodhkaaRows
import Derived.Test.YtbcaahaaaodhkaaDieD
import Derived.Test.YtbcaahaaaodhkaaCurN
import Derived.Test.YtbcaahaaaodhkaaBubW
import Derived.Test.YtbcaahaaaodhkaaDicesW
import Derived.Test.YtbcaahaaaodhkaaSortW
import Derived.Test.YtbcaahaaaodhkaaDieW
import Derived.Test.YtbcaahaaaodhkaaOpenD
import Derived.WalkKit
import Derived.WalkLawsBesides
import Derived.WalkSpells
import Derived.ProofKit
import Derived.OpenShut
import Derived.Deep.RegionWith
import Derived.Deep.QuietTactic
import Derived.BigQuiet
namespace Go.Proofs.Ytbcaahaaaodhkaa
open Go.ChangeShapes Go.WideShapes Go.ChangeAt Go.RowKit
open Go.ChangeMaps (open_string shut_string)

namespace PoolD
open Dice Arr OpenD DieW SortW DicesW CurN BubW DieD

/-- The cells of some dice. -/
def dcs (l : List (Nat → Int)) : List Value := l.flatMap (vals 6)
theorem dcs_snoc (l : List (Nat → Int)) (d : Nat → Int) : dcs (l ++ [d]) = dcs l ++ [.int .i64 (d 0), .int .i64 (d 1), .int .i64 (d 2), .int .i64 (d 3), .int .i64 (d 4), .int .i64 (d 5)] := by
  have : vals 6 d = [.int .i64 (d 0), .int .i64 (d 1), .int .i64 (d 2), .int .i64 (d 3), .int .i64 (d 4), .int .i64 (d 5)] := rfl
  rw [← this]
  simp [dcs]
def dP (l : List (Nat → Int)) (i k : Nat) : Int := (l.getD i (fun _ => 0)) k
theorem six_get (d : Nat → Int) {j : Nat} (h : j < 6) : (vals 6 d)[j]? = some (.int .i64 (d j)) := by
  obtain rfl | rfl | rfl | rfl | rfl | rfl : j = 0 ∨ j = 1 ∨ j = 2 ∨ j = 3 ∨ j = 4 ∨ j = 5 := by omega
  all_goals rfl
theorem dcs_get : ∀ (l : List (Nat → Int)) (j : Nat), j < l.length * 6 → (dcs l)[j]? = some (.int .i64 (flat (dP l) j))
  | [], j, h => by simp at h
  | d :: l, j, h => by
    have e : dcs (d :: l) = vals 6 d ++ dcs l := by simp [dcs]
    rw [e]
    by_cases h6 : j < 6
    · rw [List.getElem?_append_left (by rw [vals_len]; exact h6), six_get d h6]
      unfold flat dP
      rw [show j / 6 = 0 by omega, show j % 6 = j by omega]
      rfl
    · rw [List.getElem?_append_right (by rw [vals_len]; omega), vals_len, dcs_get l (j - 6) (by rw [List.length_cons] at h; omega)]
      unfold flat dP
      rw [show j / 6 = (j - 6) / 6 + 1 by omega, show j % 6 = (j - 6) % 6 by omega, List.getD_cons_succ]
theorem dice_own {w : World} {B : Nat} {v : Value} {l : List (Nat → Int)} (h : w.ownsRow B 72 6 v l.length (dcs l)) : ∃ A c, v = .slice A l.length c ∧ l.length ≤ c ∧ c ≤ maxLen ∧ Row w A l.length (dP l) ∧ (v ≠ .slice none 0 0 → ∃ g, A = some ⟨g, 0, none⟩ ∧ B ≤ g ∧ At w g (l.length * 6) (flat (dP l))) := by
  rcases h.2 with ⟨rfl, h0⟩ | ⟨g, cap, cur, rfl, hb, hg, hnc, hcm, hcs, htake⟩
  · exact ⟨none, 0, by rw [h0], by omega, by unfold maxLen; omega, .inl h0, fun e => absurd rfl e⟩
  · have hA : At w g (l.length * 6) (flat (dP l)) := ⟨(Array.getElem?_eq_some_iff.1 hg).1, fun k hk => (h.cellAt k hk).trans (dcs_get l k hk), fun k => h.frozenAt k⟩
    exact ⟨_, cap, rfl, hnc, hcm, row_of_at hA, fun _ => ⟨g, rfl, hb, hA⟩⟩
theorem But.grown {p : Nat} {w w' w'' : World} {row : Option Nat} (h : But p w w') (hg : w'.grownBy w'' row) (hs : w.heap.size ≤ w'.heap.size) (hr : ∀ k, row = some k → w.heap.size ≤ k) : But p w w'' :=
  ⟨hg.os.trans h.1, hg.tape.trans h.2.1, hg.output.trans h.2.2.1, Nat.le_trans h.2.2.2.1 hg.size, fun k hk hp => (hg.block k (by omega) (fun e => by have := hr k e.symm; omega)).trans (h.2.2.2.2 k hk hp)⟩
theorem Cur.grown {w w' : World} {p K : Nat} {A : Option Addr} {n c : Nat} {row : Option Nat} (h : Cur w p K A n c) (hg : w.grownBy w' row) (hr : ∀ k, row = some k → p < k) : Cur w' p K A n c :=
  h.upto ⟨hg.os, hg.tape, hg.output, hg.size, fun k hk => hg.block k (Nat.lt_of_lt_of_le hk h.1) (fun e => by have := hr k e.symm; omega)⟩
theorem own_but {w w' : World} {B p n : Nat} {v : Value} {xs : List Value} (h : w.ownsRow B 72 6 v n xs) (hp : p < B) (hu : But p w w') : w'.ownsRow B 72 6 v n xs :=
  h.kept (row := some p) ⟨hu.1, hu.2.1, hu.2.2.1, hu.2.2.2.1, fun k hk hne => hu.2.2.2.2 k hk (fun e => hne (by rw [e]))⟩ (by
    cases hv : v.ownBlock with
    | none => exact .inl rfl
    | some q => exact .inr (fun e => by have := (h.lt q hv).1; injection e with e; omega))
theorem grown_set {w w' : World} {g j : Nat} {v : Value} (h : w.grownBy w' (some g)) : w.grownBy (w'.setCell ⟨g, j, none⟩ v) (some g) :=
  ⟨h.os, h.tape, h.output, by rw [World.size_setCell]; exact h.size, fun k hk hne => (heap_setCell_other _ _ _ _ (fun e => hne (by rw [e]))).trans (h.block k hk hne)⟩
theorem grown_six (w : World) (b : Nat) (d : Nat → Int) : w.grownBy (w.setCells b 0 (vals 6 d)) (some b) :=
  grown_set (grown_set (grown_set (grown_set (grown_set (grown_set (World.grownBy.refl w _))))))
theorem six_size (w : World) (b : Nat) (d : Nat → Int) : (w.setCells b 0 (vals 6 d)).heap.size = w.heap.size := by
  show (World.setCell (World.setCell (World.setCell (World.setCell (World.setCell (World.setCell w _ _) _ _) _ _) _ _) _ _) _ _).heap.size = _
  rw [World.size_setCell, World.size_setCell, World.size_setCell, World.size_setCell, World.size_setCell, World.size_setCell]
/-- How many dice the draws take. -/
def many : List Int := [2, 3, 1, 2, 4]
theorem many_nat {q : Int} (h : q ∈ many) : ∃ r : Nat, q = r ∧ 1 ≤ r ∧ r ≤ 4 := by
  simp [many] at h
  rcases h with rfl | rfl | rfl | rfl | rfl
  · exact ⟨2, rfl, by omega, by omega⟩
  · exact ⟨3, rfl, by omega, by omega⟩
  · exact ⟨1, rfl, by omega, by omega⟩
  · exact ⟨2, rfl, by omega, by omega⟩
  · exact ⟨4, rfl, by omega, by omega⟩


set_option maxRecDepth 20000 in
set_option maxHeartbeats 16000000 in
theorem pool_any (p K : Nat) (A : Option Addr) (n c : Nat) (w : World) (h : Cur w p K A n c) (hK : K ≤ 1047000) (hn : n ≤ maxLen) :
    Calls Try.prog 79 #[.pointer (some ⟨p, 0, none⟩)] w fun e w' => (∃ A' n' c' P, e = .returned (.slice A' n' c') ∧ n' ≤ 5 ∧ n' ≤ c' ∧ c' ≤ maxLen ∧ Row w' A' n' P ∧ ∀ b o s, A' = some ⟨b, o, s⟩ → w.heap.size ≤ b) ∧ Went p (K + 200) A n c w w' := by
  have hp := h.1
  have Hd := Lib.hid (fun k w h hk => die_any p (K + k) A n c w h (show K + k ≤ 1048000 from hk) hn)
  have Hp := Lib.hid (fun k m w h hk h0 h1 => pick_any p (K + k) A n c m w h (show K + k ≤ 1048575 from hk) hn h0 h1)
  have Ho := Lib.hid (fun k m w h hk h0 h1 => one_any p (K + k) A n c m w h (show K + k ≤ 1048575 from hk) hn h0 h1)
  have Ha := Lib.hid (fun k g cp zs w h hk h0 h1 hg ht => among_any p (K + k) A n c g cp zs w h (show K + k ≤ 1048575 from hk) hn h0 h1 hg ht)
  obtain ⟨i6, hi, hz0, hz1, hz2⟩ := info_parts info_die
  have H6 := Lib.hid (And.intro hi (And.intro hz0 (And.intro hz1 hz2)))
  clear hi hz0 hz1 hz2
  have hO0 : (w.alloc (.cells #[] 72)).ownsRow w.heap.size 72 6 (.slice (some ⟨w.heap.size, 0, none⟩) 0 0) 0 [] := World.ownsRow_made w #[] 0 (Nat.le_refl _) (by decide) rfl
  have hO := hO0.alloc (.cells (many.map fun z => Value.int .i64 z).toArray 3)
  have hB : Below w.heap.size w ((w.alloc (.cells #[] 72)).alloc (.cells (many.map fun z => Value.int .i64 z).toArray 3)) := na (na (n0 w) _) _
  have hC := h.below hB
  have hU : But p w _ := But.of_below hB
  have hns := NsB.made (w.alloc (.cells #[] 72)) many 3
  clear h hB hO0
  go_enter Try.func79, Try.ntmps79
  go_wp2_with fail
  refine (Ha.out 0 (w.heap.size + 1) 5 many _ hC (by omega) (by decide) (by decide) (by omega) (by rw [size_alloc] at hns; exact hns)).mono ?_
  rintro e w1 ⟨⟨q, hq, rfl⟩, hw⟩
  have hO := own_but hO hp hw.2
  have hU := hU.trans hw.2
  have hC := hw.1
  clear hw
  obtain ⟨r, rfl, hr1, hr4⟩ := many_nat hq
  clear hq hns
  go_wp2_with fail
  go_loopw [3, 4] (fun v iv wr => ∃ (r : Nat) (ds : List (Nat → Int)), iv = .int .i64 r ∧ ds.length + r ≤ 4 ∧ 1 ≤ ds.length + r ∧ wr.ownsRow w.heap.size 72 6 v ds.length (dcs ds) ∧ v ≠ .slice none 0 0 ∧ Cur wr p (K + (2 + 32 * ds.length)) A n c ∧ But p w wr) (fun _ iv _ => (intOf iv).toNat)
  case atStart => exact ⟨r, [], rfl, by simpa using hr4, by simpa using hr1, hO, by simp, hC.more (by simp), hU⟩
  case round =>
    clear hO hC hU
    obtain ⟨r, ds, rfl, hr4, hr1, hO, hv, hC, hU⟩ := hrel
    by_cases hlt : 0 < r
    · have hrt : decide (0 < r) = true := decide_eq_true hlt
      have hrs : ((r : Int) - 1) = ((r - 1 : Nat) : Int) := by omega
      go_wp2_with fail
      refine (Hd.out (2 + 32 * ds.length) _ hC (by omega)).mono ?_
      rintro e w2 ⟨⟨d, rfl⟩, hw⟩
      have hO := own_but hO hp hw.2
      have hU := hU.trans hw.2
      have hC := hw.1
      clear hw
      unfold dv
      have hX := At.new6 w2 d 72 rfl
      have hgl := fun q e => (hO.lt q e).2
      have hsz2 := hU.size
      have hO := hO.alloc (sixO d 72)
      have hal : Below w2.heap.size w2 (w2.alloc (sixO d 72)) := na (n0 w2) _
      have hC := hC.below hal
      have hU := hU.trans (But.of_below hal)
      clear hal
      obtain ⟨A1, c1, rfl, hc1, hc2, _, hg⟩ := dice_own hO
      obtain ⟨g, rfl, hgB, hA⟩ := hg hv
      by_cases hd0 : 0 < ds.length
      · have hdt : decide (0 < ds.length) = true := decide_eq_true hd0
        go_wp2_with fail
        refine (Ho.out (2 + 32 * ds.length + 30) 3 _ hC (by omega) (by decide) (by decide)).mono ?_
        rintro e w3 ⟨⟨t, rfl⟩, hw⟩
        have hX := At.but hX (by omega) hw.2
        have hA := At.but hA (by omega) hw.2
        have hO := own_but hO hp hw.2
        have hU := hU.trans hw.2
        have hC := hw.1
        clear hw
        cases t
        · obtain ⟨x0, x1, x2, x3, x4, x5⟩ := hX.six
          have hszw := hU.size
          have hN := At.new6 w3 d 72 (b := w3.heap.size) (rfl)
          go_wp2_with (at_builtin; refine wpList_append_own _ rfl _ _ 22 rfl w.heap.size 72 i6 (.agg #[.int .i64 0, .int .i64 0, .int .i64 0, .int .i64 0, .int .i64 0, .int .i64 0]) 6 48 Try.underlying22 H6.out.1 H6.out.2.1 H6.out.2.2.1 H6.out.2.2.2 rfl (by decide) _ _ _ rfl (hO.alloc _) ⟨w3.heap.size, 0, none⟩ 1 1 [.int .i64 (d 0), .int .i64 (d 1), .int .i64 (d 2), .int .i64 (d 3), .int .i64 (d 4), .int .i64 (d 5)] rfl rfl ?c1 ?c2 ?c3 ?c4 ?c5 ?_)
          case c1 =>
            intro t u ht
            have ht6 : t < 6 := by simpa using (List.getElem?_eq_some_iff.1 ht).1
            rw [add_plain, Nat.zero_add]
            exact (hN.cell t ht6).trans ((six_get d ht6).symm.trans ht)
          case c2 => intro u hu; simp at hu; rcases hu with rfl | rfl | rfl | rfl | rfl | rfl <;> rfl
          case c3 => unfold maxLen; omega
          case c4 => omega
          case c5 => simp; omega
          · intro v' w4 hO4 hg4 hnil
            have hU4 : But p w w4 := But.grown (hU.trans (But.of_below (na (n0 w3) (sixO d 72)))) hg4 (by rw [size_alloc]; omega) (fun t e => (hO.lt t e).1)
            have hC4 : Cur w4 p (K + (2 + 32 * ds.length + 30) + 2) A n c := Cur.grown (hC.below (na (n0 w3) (sixO d 72))) hg4 (fun t e => Nat.lt_of_lt_of_le hp (hO.lt t e).1)
            have hO5 : w4.ownsRow w.heap.size 72 6 v' (ds ++ [d]).length (dcs (ds ++ [d])) := by rw [dcs_snoc, List.length_append]; exact hO4
            have hv5 : v' ≠ .slice none 0 0 := by first | exact hnil | exact fun e => absurd (hnil.1 e).2 (by decide)
            clear hg4 hO4 hO hC hnil hU hN
            go_wp2_with fail
            go_roundw
            case rel => exact ⟨r - 1, ds ++ [d], by rw [← hrs] <;> go_num, by rw [List.length_append]; simp; omega, by rw [List.length_append]; simp; omega, hO5, hv5, hC4.more (by rw [List.length_append]; simp; omega), hU4⟩
            case measure => simp [intOf]; omega
        · obtain ⟨D, hD⟩ : ∃ D : Nat → Int, D = fun k => flat (dP ds) k := ⟨_, rfl⟩
          have y0 := hA.cell 0 (by omega)
          have y1 := hA.cell 1 (by omega)
          have y2 := hA.cell 2 (by omega)
          have y3 := hA.cell 3 (by omega)
          have y4 := hA.cell 4 (by omega)
          have y5 := hA.cell 5 (by omega)
          rw [show flat (dP ds) = D from hD.symm] at y0 y1 y2 y3 y4 y5
          clear hD
          obtain ⟨x0, x1, x2, x3, x4, x5⟩ := hX.six
          obtain ⟨z0, z1, z2, z3, z4, z5⟩ := hX.free6
          have hgb : g < w2.heap.size := hgl g rfl
          have hO := hO.kept (grown_six w3 w2.heap.size D) (.inr (fun e => absurd (Option.some.inj e) (Nat.ne_of_lt hgb)))
          have hszq := hU.size
          have hX := hX.stored D
          have hC := Cur.setsnew hC (show p < w2.heap.size by omega) (vals 6 D) 0
          have hU := But.setsnew hU hsz2 (vals 6 D) 0
          obtain ⟨s0, s1, s2, s3, s4, s5⟩ := hX.six
          have hszw := hU.size
          have hN := At.new6 (w3.setCells w2.heap.size 0 (vals 6 D)) D 72 (b := w3.heap.size) ((six_size _ _ _).symm)
          go_wp2_with (at_builtin; refine wpList_append_own _ rfl _ _ 22 rfl w.heap.size 72 i6 (.agg #[.int .i64 0, .int .i64 0, .int .i64 0, .int .i64 0, .int .i64 0, .int .i64 0]) 6 48 Try.underlying22 H6.out.1 H6.out.2.1 H6.out.2.2.1 H6.out.2.2.2 rfl (by decide) _ _ _ rfl (hO.alloc _) ⟨w3.heap.size, 0, none⟩ 1 1 [.int .i64 (D 0), .int .i64 (D 1), .int .i64 (D 2), .int .i64 (D 3), .int .i64 (D 4), .int .i64 (D 5)] rfl rfl ?c1 ?c2 ?c3 ?c4 ?c5 ?_)
          case c1 =>
            intro t u ht
            have ht6 : t < 6 := by simpa using (List.getElem?_eq_some_iff.1 ht).1
            rw [add_plain, Nat.zero_add]
            exact (hN.cell t ht6).trans ((six_get D ht6).symm.trans ht)
          case c2 => intro u hu; simp at hu; rcases hu with rfl | rfl | rfl | rfl | rfl | rfl <;> rfl
          case c3 => unfold maxLen; omega
          case c4 => omega
          case c5 => simp; omega
          · intro v' w4 hO4 hg4 hnil
            have hU4 : But p w w4 := But.grown (hU.trans (But.of_below (na (n0 (w3.setCells w2.heap.size 0 (vals 6 D))) (sixO D 72)))) hg4 (by rw [size_alloc]; omega) (fun t e => (hO.lt t e).1)
            have hC4 : Cur w4 p (K + (2 + 32 * ds.length + 30) + 2) A n c := Cur.grown (hC.below (na (n0 (w3.setCells w2.heap.size 0 (vals 6 D))) (sixO D 72))) hg4 (fun t e => Nat.lt_of_lt_of_le hp (hO.lt t e).1)
            have hO5 : w4.ownsRow w.heap.size 72 6 v' (ds ++ [D]).length (dcs (ds ++ [D])) := by rw [dcs_snoc, List.length_append]; exact hO4
            have hv5 : v' ≠ .slice none 0 0 := by first | exact hnil | exact fun e => absurd (hnil.1 e).2 (by decide)
            clear hg4 hO4 hO hC hnil hU hN
            go_wp2_with fail
            go_roundw
            case rel => exact ⟨r - 1, ds ++ [D], by rw [← hrs] <;> go_num, by rw [List.length_append]; simp; omega, by rw [List.length_append]; simp; omega, hO5, hv5, hC4.more (by rw [List.length_append]; simp; omega), hU4⟩
            case measure => simp [intOf]; omega
      · have hdt : decide (0 < ds.length) = false := decide_eq_false hd0
        obtain ⟨x0, x1, x2, x3, x4, x5⟩ := hX.six
        have hszw := hU.size
        have hN := At.new6 (w2.alloc (sixO d 72)) d 72 (b := (w2.heap.size + 1)) (by rw [size_alloc])
        go_wp2_with (at_builtin; refine wpList_append_own _ rfl _ _ 22 rfl w.heap.size 72 i6 (.agg #[.int .i64 0, .int .i64 0, .int .i64 0, .int .i64 0, .int .i64 0, .int .i64 0]) 6 48 Try.underlying22 H6.out.1 H6.out.2.1 H6.out.2.2.1 H6.out.2.2.2 rfl (by decide) _ _ _ rfl (hO.alloc _) ⟨(w2.heap.size + 1), 0, none⟩ 1 1 [.int .i64 (d 0), .int .i64 (d 1), .int .i64 (d 2), .int .i64 (d 3), .int .i64 (d 4), .int .i64 (d 5)] rfl rfl ?c1 ?c2 ?c3 ?c4 ?c5 ?_)
        case c1 =>
          intro t u ht
          have ht6 : t < 6 := by simpa using (List.getElem?_eq_some_iff.1 ht).1
          rw [add_plain, Nat.zero_add]
          exact (hN.cell t ht6).trans ((six_get d ht6).symm.trans ht)
        case c2 => intro u hu; simp at hu; rcases hu with rfl | rfl | rfl | rfl | rfl | rfl <;> rfl
        case c3 => unfold maxLen; omega
        case c4 => omega
        case c5 => simp; omega
        · intro v' w4 hO4 hg4 hnil
          have hU4 : But p w w4 := But.grown (hU.trans (But.of_below (na (n0 (w2.alloc (sixO d 72))) (sixO d 72)))) hg4 (by rw [size_alloc]; omega) (fun t e => (hO.lt t e).1)
          have hC4 : Cur w4 p (K + (2 + 32 * ds.length) + 30) A n c := Cur.grown (hC.below (na (n0 (w2.alloc (sixO d 72))) (sixO d 72))) hg4 (fun t e => Nat.lt_of_lt_of_le hp (hO.lt t e).1)
          have hO5 : w4.ownsRow w.heap.size 72 6 v' (ds ++ [d]).length (dcs (ds ++ [d])) := by rw [dcs_snoc, List.length_append]; exact hO4
          have hv5 : v' ≠ .slice none 0 0 := by first | exact hnil | exact fun e => absurd (hnil.1 e).2 (by decide)
          clear hg4 hO4 hO hC hnil hU hN
          go_wp2_with fail
          go_roundw
          case rel => exact ⟨r - 1, ds ++ [d], by rw [← hrs] <;> go_num, by rw [List.length_append]; simp; omega, by rw [List.length_append]; simp; omega, hO5, hv5, hC4.more (by rw [List.length_append]; simp; omega), hU4⟩
          case measure => simp [intOf]; omega
    · obtain rfl : r = 0 := by omega
      go_wp2_with fail
      refine (Hp.out (2 + 32 * ds.length) 50 _ hC (by omega) (by decide) (by decide)).mono ?_
      rintro e w3 ⟨⟨m, hm, rfl⟩, hw⟩
      have hO := own_but hO hp hw.2
      have hU := hU.trans hw.2
      have hC := hw.1
      clear hw
      by_cases h0 : m = 0
      · subst h0
        go_wp2_with fail
        go_ret
        refine ⟨⟨_, _, _, fun _ _ => 0, rfl, by omega, by omega, by unfold maxLen; omega, .inl rfl, fun b o s e => ?_⟩, hC.below (na (n0 w3) _) |>.more (by omega), hU.trans (But.of_below (na (n0 w3) _))⟩
        cases e
        exact hU.size
      have h0' : ((m : Int) == 0) = false := by simp; omega
      by_cases h1 : m = 1
      · subst h1
        go_wp2_with fail
        go_loopw [3] (fun v wr => ∃ ds : List (Nat → Int), 1 ≤ ds.length ∧ ds.length ≤ 5 ∧ wr.ownsRow w.heap.size 72 6 v ds.length (dcs ds) ∧ v ≠ .slice none 0 0 ∧ Cur wr p (K + 150) A n c ∧ But p w wr) (fun v _ => match v with | .slice _ l _ => 5 - l | _ => 0)
        case atStart => exact ⟨ds, by omega, by omega, hO, hv, hC.more (by omega), hU⟩
        case round =>
          clear hO hC hU hv
          obtain ⟨ds, h1, h5, hO, hv, hC, hU⟩ := hrel
          obtain ⟨A1, c1, rfl, hc1, hc2, hRow, hg⟩ := dice_own hO
          obtain ⟨g, rfl, hgB, hA⟩ := hg hv
          by_cases hlt : ds.length < 5
          · have hlt' : decide (ds.length < 5) = true := decide_eq_true hlt
            obtain ⟨D, hD⟩ : ∃ D : Nat → Int, D = fun k => flat (dP ds) k := ⟨_, rfl⟩
            have y0 := hA.cell 0 (by omega)
            have y1 := hA.cell 1 (by omega)
            have y2 := hA.cell 2 (by omega)
            have y3 := hA.cell 3 (by omega)
            have y4 := hA.cell 4 (by omega)
            have y5 := hA.cell 5 (by omega)
            rw [show flat (dP ds) = D from hD.symm] at y0 y1 y2 y3 y4 y5
            clear hD
            have hszw := hU.size
            have hN := At.new6 wr D 72 (b := wr.heap.size) (rfl)
            go_wp2_with (at_builtin; refine wpList_append_own _ rfl _ _ 22 rfl w.heap.size 72 i6 (.agg #[.int .i64 0, .int .i64 0, .int .i64 0, .int .i64 0, .int .i64 0, .int .i64 0]) 6 48 Try.underlying22 H6.out.1 H6.out.2.1 H6.out.2.2.1 H6.out.2.2.2 rfl (by decide) _ _ _ rfl (hO.alloc _) ⟨wr.heap.size, 0, none⟩ 1 1 [.int .i64 (D 0), .int .i64 (D 1), .int .i64 (D 2), .int .i64 (D 3), .int .i64 (D 4), .int .i64 (D 5)] rfl rfl ?c1 ?c2 ?c3 ?c4 ?c5 ?_)
            case c1 =>
              intro t u ht
              have ht6 : t < 6 := by simpa using (List.getElem?_eq_some_iff.1 ht).1
              rw [add_plain, Nat.zero_add]
              exact (hN.cell t ht6).trans ((six_get D ht6).symm.trans ht)
            case c2 => intro u hu; simp at hu; rcases hu with rfl | rfl | rfl | rfl | rfl | rfl <;> rfl
            case c3 => unfold maxLen; omega
            case c4 => omega
            case c5 => simp; omega
            · intro v' w4 hO4 hg4 hnil
              have hU4 : But p w w4 := But.grown (hU.trans (But.of_below (na (n0 wr) (sixO D 72)))) hg4 (by rw [size_alloc]; omega) (fun t e => (hO.lt t e).1)
              have hC4 : Cur w4 p (K + 150) A n c := Cur.grown (hC.below (na (n0 wr) (sixO D 72))) hg4 (fun t e => Nat.lt_of_lt_of_le hp (hO.lt t e).1)
              have hO5 : w4.ownsRow w.heap.size 72 6 v' (ds ++ [D]).length (dcs (ds ++ [D])) := by rw [dcs_snoc, List.length_append]; exact hO4
              have hv5 : v' ≠ .slice none 0 0 := by first | exact hnil | exact fun e => absurd (hnil.1 e).2 (by decide)
              clear hg4 hO4 hO hC hnil hU hN
              obtain ⟨A2, c2, rfl, _⟩ := dice_own hO5
              go_wp2_with fail
              go_roundw
              case rel => exact ⟨ds ++ [D], by rw [List.length_append]; simp, by rw [List.length_append]; simp; omega, hO5, hv5, hC4, hU4⟩
              case measure => simp [List.length_append]; omega
          · have hlt' : decide (ds.length < 5) = false := decide_eq_false hlt
            go_wp2_with fail
            go_ret
            refine ⟨⟨_, _, _, dP ds, rfl, by omega, hc1, hc2, hRow, fun b o s e => ?_⟩, hC.more (by omega), hU⟩
            cases e
            exact hgB
      · have h1' : ((m : Int) == 1) = false := by simp; omega
        obtain ⟨A1, c1, rfl, hc1, hc2, hRow, hg⟩ := dice_own hO
        obtain ⟨g, rfl, hgB, hA⟩ := hg hv
        go_wp2_with fail
        go_ret
        refine ⟨⟨_, _, _, dP ds, rfl, by omega, hc1, hc2, hRow, fun b o s e => ?_⟩, hC.more (by omega), hU⟩
        cases e
        exact hgB


end PoolD
end Go.Proofs.Ytbcaahaaaodhkaa
