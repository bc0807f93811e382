/-
  l10Spread and MendLetters of the model.
-/
import Derived.Test.YtiiknpebphpeiaaRows
import Derived.Test.YtiiknpebphpeiaaArr
import Derived.Test.YtiiknpebphpeiaaDieW
import Derived.Test.YtiiknpebphpeiaaSortW
import Derived.Test.YtiiknpebphpeiaaFour
import Derived.Test.YtiiknpebphpeiaaOrdM
import Derived.Test.YtiiknpebphpeiaaOrdK
import Derived.Test.YtiiknpebphpeiaaOrdW
import Derived.Test.YtiiknpebphpeiaaDicesW
import Derived.Test.YtiiknpebphpeiaaPoolW
import Derived.Test.YtiiknpebphpeiaaOwnL
import Derived.Test.YtiiknpebphpeiaaOpenI
import Derived.Test.YtiiknpebphpeiaaLtrM
import Derived.Test.YtiiknpebphpeiaaIntsW
import Derived.Test.YtiiknpebphpeiaaIntL
import Derived.Test.YtiiknpebphpeiaaIntsE
import Derived.Test.YtiiknpebphpeiaaLtrS
import Derived.Test.YtiiknpebphpeiaaLtrP
import Derived.Test.YtiiknpebphpeiaaLtrI
import Derived.Test.YtiiknpebphpeiaaLtrK
import Derived.Test.YtiiknpebphpeiaaLtrO
import Derived.Test.YtiiknpebphpeiaaLtrW
import Derived.Test.YtiiknpebphpeiaaShelfCR
import Derived.Test.YtiiknpebphpeiaaLevW
import Derived.Test.YtiiknpebphpeiaaTurnW
import Derived.Test.YtiiknpebphpeiaaAll6
import Derived.Test.YtiiknpebphpeiaaRollN
import Derived.Test.YtiiknpebphpeiaaRollS
import Derived.Test.YtiiknpebphpeiaaOrdT
import Derived.Test.YtiiknpebphpeiaaOrdO
import Derived.Test.YtiiknpebphpeiaaOrdI
import Derived.Test.YtiiknpebphpeiaaOrdS
import Derived.Test.YtiiknpebphpeiaaAnyR
import Derived.Test.YtiiknpebphpeiaaMapO
import Derived.Test.YtiiknpebphpeiaaShelfMax
import Derived.Test.YtiiknpebphpeiaaOrdN
import Derived.Test.YtiiknpebphpeiaaOrdL
import Derived.Test.YtiiknpebphpeiaaCntI
import Derived.Test.YtiiknpebphpeiaaWayI
import Derived.Test.YtiiknpebphpeiaaWayJ
import Derived.Test.YtiiknpebphpeiaaWayS
import Derived.Test.YtiiknpebphpeiaaWayT
import Derived.Test.YtiiknpebphpeiaaMenM
import Derived.Test.YtiiknpebphpeiaaOpenD
import Derived.WalkKit
import Derived.WalkLawsBesides
import Derived.WalkSpells
import Derived.ProofKit
import Derived.OpenShut
import Derived.Deep.RegionWith
import Derived.Deep.QuietTactic
import Derived.BigQuiet
namespace Go.Proofs.Ytiiknpebphpeiaa
open Go.ChangeShapes Go.WideShapes Go.ChangeAt Go.RowKit
open Go.ChangeMaps (open_string shut_string)

namespace MenS
open Dice Arr OpenD DieW SortW DicesW PoolW All6 IntsW RollW Four OwnL OrdM OrdT OrdW OrdO OrdI OrdK OrdS AnyR MapO OrdN OrdL CntI WayI WayJ WayS WayT OpenG LtrM LtrS LtrP LtrI LtrK LtrO LevW LtrW TurnW MenM


theorem least_any (a b : Int) (w : World) : Calls Try.prog 106 #[.int .i64 a, .int .i64 b] w fun e w' => e = .returned (.int .i64 (min a b)) ∧ w' = w := by
  by_cases h : a < b
  · have hd : decide (a < b) = true := decide_eq_true h
    rw [show min a b = a by omega]
    go_enter Try.func106, Try.ntmps106
    go_wp2_with fail
    go_ret
    exact ⟨rfl, rfl⟩
  · have hd : decide (a < b) = false := decide_eq_false h
    rw [show min a b = b by omega]
    go_enter Try.func106, Try.ntmps106
    go_wp2_with fail
    go_ret
    exact ⟨rfl, rfl⟩
theorem most_any (a b : Int) (w : World) : Calls Try.prog 107 #[.int .i64 a, .int .i64 b] w fun e w' => e = .returned (.int .i64 (max a b)) ∧ w' = w := by
  by_cases h : b < a
  · have hd : decide (b < a) = true := decide_eq_true h
    rw [show max a b = a by omega]
    go_enter Try.func107, Try.ntmps107
    go_wp2_with fail
    go_ret
    exact ⟨rfl, rfl⟩
  · have hd : decide (b < a) = false := decide_eq_false h
    rw [show max a b = b by omega]
    go_enter Try.func107, Try.ntmps107
    go_wp2_with fail
    go_ret
    exact ⟨rfl, rfl⟩
set_option maxRecDepth 20000 in
set_option maxHeartbeats 4000000 in
theorem spread_any (g m c : Nat) (f : Nat → Int) (w : World) (h : At w g (6 * m) f) (hk : Ok f (6 * m)) :
    Calls Try.prog 91 #[.slice (some ⟨g, 0, none⟩) (6 * m) c] w fun e w' => e = .returned (.int .i64 (spW (6 * m) f)) ∧ Below w.heap.size w w' := by
  obtain ⟨m', hm, h1, h4, _⟩ := id hk
  obtain rfl : m = m' := by omega
  have Hp := Lib.hid (fun w h => specPool_any (some ⟨g, 0, none⟩) m c f w h hk)
  have Hw := Lib.hid (fun g w h => specW_any (some ⟨g, 0, none⟩) m m (lq f (6 * m)) w h h1 h4)
  have hl24 : (ordL m).length ≤ 24 := (ordI_len h1 h4 m (Nat.le_refl _)).1
  have hl1 : 1 ≤ (ordL m).length := (ordI_len h1 h4 m (Nat.le_refl _)).2
  have hin := fL_in f h4
  have HS : Hid (spW (6 * m) f = mxs (fL (6 * m) f) (ordL m).length - mns (fL (6 * m) f) (ordL m).length) := by show _ = _; unfold spW; rw [show 6 * m / 6 = m by omega]
  rw [← show fL (6 * m) f = wf (cnt (gO (lq f (6 * m)) m) (all6 m)) (ordL m) from fL_yes m f] at Hw
  have Hmm := Lib.hid (mxs_in hin)
  have HL := Lib.hid (fun a b w => least_any a b w)
  have HM := Lib.hid (fun a b w => most_any a b w)
  rw [HS.out]
  clear hk hm HS
  generalize fL (6 * m) f = G at *
  generalize (ordL m).length = q at *
  have Hin := Lib.hid hin; clear hin
  have H := Lib.hid h; clear h
  go_enter Try.func91, Try.ntmps91
  go_wp2_with fail
  refine (Hp.out _ (rowI_of H.out)).mono ?_
  rintro e w3 ⟨g3, rfl, hg3, hA3, hb3⟩
  go_wp2_with fail
  refine (Hw.out _ _ (lq_row hA3)).mono ?_
  rintro e w4 ⟨b, rfl, hg4, hA4, hb4⟩
  have hB4 := nx hb3 hb4
  have c0 := hA4.cell 0 (by omega)
  clear hA3 hb3 hb4
  go_wp2_with fail
  go_quiet (fail)
  go_wp2_with fail
  obtain ⟨w5, hw5⟩ : ∃ w5, w5 = w4.drew := ⟨_, rfl⟩
  go_loopw [4, 5, 6] (fun lv mv iv wr => ∃ i : Nat, i ≤ q ∧ iv = .int .i64 i ∧ lv = .int .i64 (mns G i) ∧ mv = .int .i64 (mxs G i) ∧ At wr b q G ∧ Below w.heap.size w wr) (fun _ _ iv _ => q - (intOf iv).toNat)
  case atStart => exact ⟨0, Nat.zero_le _, rfl, rfl, rfl, by first | exact hA4.drewN _ | exact hA4.drew | exact hA4, by first | exact below_drewN hB4 _ | exact hB4.drew | exact hB4⟩
  case round =>
    clear hA4 hB4 c0
    obtain ⟨i, hi, rfl, rfl, rfl, hA, hB⟩ := hrel
    by_cases hlt : i < q
    · have hit : decide ((i : Int) < (q : Int)) = true := decide_eq_true (by omega)
      have hitN : decide (i < q) = true := decide_eq_true hlt
      have ci := hA.cell i hlt
      have e1 : Hid (mns G (i + 1) = min (mns G i) (G i)) := rfl
      have e2 : Hid (mxs G (i + 1) = max (mxs G i) (G i)) := rfl
      generalize mns G i = a at *
      generalize mxs G i = d at *
      generalize G i = x at *
      go_wp2_with fail
      refine (HL.out _ _ _).mono ?_
      rintro e w6 ⟨rfl, hw⟩
      have hw := hw.symm
      subst hw
      go_wp2_with fail
      refine (HM.out _ _ _).mono ?_
      rintro e w6 ⟨rfl, hw⟩
      have hw := hw.symm
      subst hw
      go_wp2_with fail
      go_roundw
      case rel => exact ⟨i + 1, by omega, by go_num, by rw [e1.out], by rw [e2.out], hA, hB⟩
      case measure => simp [intOf]; omega
    · obtain rfl : i = q := by omega
      have hit : decide ((i : Int) < (i : Int)) = false := decide_eq_false (by omega)
      have hitN : decide (i < i) = false := decide_eq_false (by omega)
      have hb := Hmm.out i
      generalize ha : mns G i = a at *
      generalize hd : mxs G i = d at *
      have Ha := Lib.hid ha; clear ha
      have Hd := Lib.hid hd; clear hd
      go_wp2_with fail
      go_ret
      exact ⟨by rw [Ha.out, Hd.out]; rfl, hB⟩

theorem spread_n (g n c : Nat) (f : Nat → Int) (w : World) (h : At w g n f) (hk : Ok f n) :
    Calls Try.prog 91 #[.slice (some ⟨g, 0, none⟩) n c] w fun e w' => e = .returned (.int .i64 (spW n f)) ∧ Below w.heap.size w w' := by
  obtain ⟨m, rfl, _⟩ := id hk
  exact spread_any g m c f w h hk
noncomputable def spM (n : Nat) (f : Nat → Int) : Int := if okF n f then (be n f (n - 1)).2 else 0
theorem spM_yes {n : Nat} {f : Nat → Int} (h : Ok f n) : spM n f = (be n f (n - 1)).2 := by unfold spM; rw [okF_yes h]; rfl
theorem spM_no {n : Nat} {f : Nat → Int} (h : ¬ Ok f n) : spM n f = 0 := by unfold spM; rw [okF_no h]; rfl
def beF (n : Nat) (f : Nat → Int) : Nat → Int := (be n f (n - 1)).1
theorem own_any (g n c : Nat) (f : Nat → Int) (w : World) (h : At w g n f) (hn : n ≤ 1000) :
    Calls Try.prog 90 #[.slice (some ⟨g, 0, none⟩) n c] w fun e w' => ∃ g' c', e = .returned (.slice (some ⟨g', 0, none⟩) n c') ∧ At w' g' n f ∧ w.heap.size ≤ g' ∧ Below w.heap.size w w' := by
  refine (l1Own_any g n c f w h.lt (fun k hk => h.cell k hk) hn).mono ?_
  rintro e w' ⟨g', c', rfl, hO, hb⟩
  obtain ⟨hA, hB⟩ := At.of_own' hO
  exact ⟨g', c', rfl, hA, hB, hb⟩
set_option maxRecDepth 20000 in
set_option maxHeartbeats 4000000 in
theorem specM_any (g n : Nat) (f : Nat → Int) (w : World) (h : At w g n f) (hn : n ≤ 1048576) :
    Calls Try.prog 59 #[.slice (some ⟨g, 0, none⟩) n n] w fun e w' => ∃ A c, e = .returned (.tuple #[.slice A (mT n f) c, .int .i64 (spM n f), .bool (okF n f)]) ∧ Ints w.heap.size w' A (mT n f) (beF n f) ∧ Below w.heap.size w w' := by
  have hm : n ≤ maxLen := by unfold maxLen; omega
  by_cases hk : Ok f n
  · have Hk := Lib.hid (fun w h => specOkL_any (some ⟨g, 0, none⟩) n n f true ⟨fun _ => hk, fun _ => rfl⟩ w h hm)
    obtain ⟨m, hm6, h1, h4, _⟩ := id hk
    have Ho := Lib.hid (fun w h => own_any g n n f w h (by omega))
    have Hsp := Lib.hid (fun g c f w h hk => spread_n g n c f w h hk)
    have Hok := Lib.hid hk
    rw [okF_yes hk, mT_yes hk, spM_yes hk]
    have hgl := h.lt
    have hn6 : 6 ≤ n ∧ n ≤ 24 := by omega
    have hbe0 : Hid (be n f 0 = (f, spW n f)) := rfl
    have Hyes : Hid (∀ i B s, be n f i = (B, s) → spW n (swl f i) < s → be n f (i + 1) = (swl f i, spW n (swl f i))) := fun i B s e hlt => be_yes (by rw [e]; exact hlt)
    have Hno : Hid (∀ i B s, be n f i = (B, s) → ¬ spW n (swl f i) < s → be n f (i + 1) = (B, s)) := fun i B s e hlt => by rw [be_no (by rw [e]; exact hlt), e]
    have HbF : Hid (∀ B s, be n f (n - 1) = (B, s) → (be n f (n - 1)).2 = s ∧ beF n f = B) := fun B s e => ⟨by rw [e], by unfold beF; rw [e]⟩
    have H := Lib.hid h; clear h
    clear hk hm hn hm6
    go_enter Try.func59, Try.ntmps59
    go_wp2_with fail
    refine (Hk.out _ (rowI_of H.out)).mono ?_
    rintro e w2 ⟨rfl, hb2⟩
    go_wp2_with fail
    refine (Ho.out _ (H.out.below hgl hb2)).mono ?_
    rintro e w3 ⟨g3, c3, rfl, hA3, hg3, hb3⟩
    have hB3 := nx hb2 hb3
    have hs2 := hb2.size
    go_wp2_with fail
    refine (Hsp.out _ _ _ _ (H.out.below hgl hB3) Hok.out).mono ?_
    rintro e w4 ⟨rfl, hb4⟩
    have hB4 := nx hB3 hb4
    have hA4 := hA3.up hb4
    generalize spW n f = s0 at *
    go_wp2_with fail
    go_loopw [5, 6, 7] (fun bv sv iv wr => ∃ (i : Nat) (B : Nat → Int) (s : Int) (gb cb : Nat), i + 1 ≤ n ∧ iv = .int .i64 i ∧ bv = .slice (some ⟨gb, 0, none⟩) n cb ∧ sv = .int .i64 s ∧ Hid (be n f i = (B, s)) ∧ At wr gb n B ∧ w.heap.size ≤ gb ∧ Below w.heap.size w wr) (fun _ _ iv _ => n - (intOf iv).toNat)
    case atStart => exact ⟨0, f, s0, g3, c3, by omega, rfl, rfl, rfl, hbe0, hA4, by omega, hB4⟩
    case round =>
      clear hA3 hA4 hB3 hB4 hbe0 hb2 hb3 hb4 hg3 hs2
      obtain ⟨i, B, s, gb, cb, hi, rfl, rfl, rfl, hbe, hA, hgb, hB⟩ := hrel
      by_cases hlt : i + 1 < n
      · have hit : decide ((i : Int) + 1 < (n : Int)) = true := decide_eq_true (by omega)
        have hitN : decide (i + 1 < n) = true := decide_eq_true hlt
        have Hy := Lib.hid (Hyes.out i B s hbe.out)
        have Hn := Lib.hid (Hno.out i B s hbe.out)
        have Hs := Lib.hid (fun g c w h => Hsp.out g c (swl f i) w h (ok_swl Hok.out hlt))
        have hgr := hB.size
        go_wp2_with fail
        refine (Ho.out _ (H.out.below hgl hB)).mono ?_
        rintro e w5 ⟨g5, c5, rfl, hA5, hg5, hb5⟩
        have hB5 := nx hB hb5
        have hAb := hA.up hb5
        have hal := hA.lt
        have hne : gb ≠ g5 := by omega
        have hl := H.out.below hgl hB5
        have hne2 : g ≠ g5 := by omega
        have x0 := hl.cell i (by omega)
        have x1 := hl.cell (i + 1) hlt
        have z0 := hA5.free i
        have y0 := hA5.cell i (by omega)
        have hA6 := hA5.set (i := i) (by omega) (f (i + 1))
        have x2 := (hl.other (p := g5) hne2 i (.int .i64 (f (i + 1)))).cell i (by omega)
        have z1 := hA6.free (i + 1)
        have y1 := hA6.cell (i + 1) hlt
        have hA7 : At _ g5 n (swl f i) := hA6.set (i := i + 1) hlt (f i)
        have hB7 := (hB5.setCell (p := ⟨g5, i, none⟩) (by show w.heap.size ≤ g5; omega) (.int .i64 (f (i + 1)))).setCell (p := ⟨g5, i + 1, none⟩) (by show w.heap.size ≤ g5; omega) (.int .i64 (f i))
        have hAb7 := (hAb.other hne i (.int .i64 (f (i + 1)))).other hne (i + 1) (.int .i64 (f i))
        clear hA hB hb5 hA5 hB5 hAb hA6 hl
        go_wp2_with fail
        refine (Hs.out _ _ _ hA7).mono ?_
        rintro e w8 ⟨rfl, hb8⟩
        have hB8 := nx hB7 hb8
        have hA8 := hA7.up hb8
        have hAb8 := hAb7.up hb8
        clear hA7 hB7 hAb7 hb8 x0 x1 x2 y0 y1 z0 z1
        generalize spW n (swl f i) = t at *
        by_cases hts : t < s
        · have hd : decide (t < s) = true := decide_eq_true hts
          have hbe' := Lib.hid (Hy.out (by omega))
          clear Hy Hn hts
          go_wp2_with fail
          go_roundw
          case rel => exact ⟨i + 1, swl f i, t, g5, c5, by omega, by go_num, rfl, rfl, hbe', hA8, by omega, hB8⟩
          case measure => simp [intOf]; omega
        · have hd : decide (t < s) = false := decide_eq_false hts
          have hbe' := Lib.hid (Hn.out (by omega))
          clear Hy Hn hts
          go_wp2_with fail
          go_roundw
          case rel => exact ⟨i + 1, B, s, gb, cb, by omega, by go_num, rfl, rfl, hbe', hAb8, hgb, hB8⟩
          case measure => simp [intOf]; omega
      · have hit : decide ((i : Int) + 1 < (n : Int)) = false := decide_eq_false (by omega)
        have hitN : decide (i + 1 < n) = false := decide_eq_false hlt
        have hbe' : Hid (be n f (n - 1) = (B, s)) := by rw [show n - 1 = i by omega]; exact hbe
        have HbF2 := Lib.hid (HbF.out B s hbe'.out)
        go_wp2_with fail
        go_ret3
        exact ⟨_, _, by rw [HbF2.out.1]; rfl, .inr ⟨gb, rfl, hgb, by rw [HbF2.out.2]; exact hA⟩, hB⟩
  · have Hk := Lib.hid (fun w h => specOkL_any (some ⟨g, 0, none⟩) n n f false ⟨fun h => (by cases h), fun h => absurd h hk⟩ w h hm)
    rw [okF_no hk, mT_no hk, spM_no hk]
    have H := Lib.hid h; clear h
    clear hk hm
    go_enter Try.func59, Try.ntmps59
    go_wp2_with fail
    refine (Hk.out _ (rowI_of H.out)).mono ?_
    rintro e w2 ⟨rfl, hb⟩
    go_wp2_with fail
    go_ret3
    exact ⟨_, _, rfl, .inl rfl, na hb _⟩


end MenS
end Go.Proofs.Ytiiknpebphpeiaa
