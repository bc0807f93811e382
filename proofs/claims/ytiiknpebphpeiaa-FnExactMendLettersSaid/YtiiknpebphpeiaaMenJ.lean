/-
  MendLetters of the program.
-/
import Derived.Test.YtiiknpebphpeiaaRows
import Derived.Test.YtiiknpebphpeiaaArr
import Derived.Test.YtiiknpebphpeiaaDieW
import Derived.Test.YtiiknpebphpeiaaSortW
import Derived.Test.YtiiknpebphpeiaaFour
import Derived.Test.YtiiknpebphpeiaaOrdM
import Derived.Test.YtiiknpebphpeiaaOrdK
import Derived.Test.YtiiknpebphpeiaaOrdW
import Derived.Test.YtiiknpebphpeiaaDicesW
import Derived.Test.YtiiknpebphpeiaaPoolW
import Derived.Test.YtiiknpebphpeiaaOwnL
import Derived.Test.YtiiknpebphpeiaaOpenI
import Derived.Test.YtiiknpebphpeiaaLtrM
import Derived.Test.YtiiknpebphpeiaaIntsW
import Derived.Test.YtiiknpebphpeiaaIntL
import Derived.Test.YtiiknpebphpeiaaIntsE
import Derived.Test.YtiiknpebphpeiaaLtrS
import Derived.Test.YtiiknpebphpeiaaLtrP
import Derived.Test.YtiiknpebphpeiaaLtrI
import Derived.Test.YtiiknpebphpeiaaLtrK
import Derived.Test.YtiiknpebphpeiaaLtrO
import Derived.Test.YtiiknpebphpeiaaLtrW
import Derived.Test.YtiiknpebphpeiaaShelfCR
import Derived.Test.YtiiknpebphpeiaaLevW
import Derived.Test.YtiiknpebphpeiaaTurnW
import Derived.Test.YtiiknpebphpeiaaAll6
import Derived.Test.YtiiknpebphpeiaaRollN
import Derived.Test.YtiiknpebphpeiaaRollS
import Derived.Test.YtiiknpebphpeiaaOrdT
import Derived.Test.YtiiknpebphpeiaaOrdO
import Derived.Test.YtiiknpebphpeiaaOrdI
import Derived.Test.YtiiknpebphpeiaaOrdS
import Derived.Test.YtiiknpebphpeiaaAnyR
import Derived.Test.YtiiknpebphpeiaaMapO
import Derived.Test.YtiiknpebphpeiaaShelfMax
import Derived.Test.YtiiknpebphpeiaaOrdN
import Derived.Test.YtiiknpebphpeiaaOrdL
import Derived.Test.YtiiknpebphpeiaaCntI
import Derived.Test.YtiiknpebphpeiaaWayI
import Derived.Test.YtiiknpebphpeiaaWayJ
import Derived.Test.YtiiknpebphpeiaaWayS
import Derived.Test.YtiiknpebphpeiaaWayT
import Derived.Test.YtiiknpebphpeiaaMenM
import Derived.Test.YtiiknpebphpeiaaMenS
import Derived.Test.YtiiknpebphpeiaaMenI
import Derived.Test.YtiiknpebphpeiaaOpenD
import Derived.WalkKit
import Derived.StillTail
import Derived.StillTactics
import Derived.StillTailTactics
import Derived.WalkLawsBesides
import Derived.WalkSpells
import Derived.ProofKit
import Derived.OpenShut
import Derived.Deep.RegionWith
import Derived.Deep.QuietTactic
import Derived.BigQuiet
namespace Go.Proofs.Ytiiknpebphpeiaa
open Go.ChangeShapes Go.WideShapes Go.ChangeAt Go.RowKit
open Go.ChangeMaps (open_string shut_string)

namespace MenJ
open Dice Arr OpenD DieW SortW DicesW PoolW All6 IntsW RollW Four OwnL OrdM OrdT OrdW OrdO OrdI OrdK OrdS AnyR MapO OrdN OrdL CntI WayI WayJ WayS WayT OpenG LtrM LtrS LtrP LtrI LtrK LtrO LevW LtrW TurnW MenM MenS MenI LtrK


theorem wrap_sameL1 (m : Int) (h0 : 0 ≤ m) (h1 : m ≤ 1000000000000000) : IntKind.i64.wrap m = m := by
  simp [IntKind.wrap, IntKind.signed, IntKind.bits]
  omega
theorem wone1 {p : Nat} (hp : p ≤ 1000000000000000) : IntKind.i64.wrap (p : Int) = (p : Int) ∧ wrap64 (p : Int) = (p : Int) := by
  constructor
  · exact wrap_sameL1 _ (by omega) (by omega)
  · unfold wrap64; omega
theorem wadd1 {i : Nat} (h : i < 100) : IntKind.i64.wrap ((i : Int) + 1) = (i : Int) + 1 := by
  have := (wone1 (p := i + 1) (by omega)).1
  rw [show (i : Int) + 1 = ((i + 1 : Nat) : Int) by push_cast; rfl]
  exact this
set_option maxRecDepth 20000 in
set_option maxHeartbeats 4000000 in
theorem implM_any (g n : Nat) (f : Nat → Int) (w : World) (h : At w g n f) (hn : n ≤ 1048576) :
    Calls Try.prog 60 #[.slice (some ⟨g, 0, none⟩) n n] w fun e w' => ∃ A c, e = .returned (.tuple #[.slice A (mT n f) c, .int .i64 (spM n f), .bool (okF n f)]) ∧ Ints w.heap.size w' A (mT n f) (beF n f) ∧ Below w.heap.size w w' := by
  have hm : n ≤ maxLen := by unfold maxLen; omega
  by_cases hk : Ok f n
  · have Hp : Hid (∀ w, At w g n f → Calls Try.prog 51 #[.slice (some ⟨g, 0, none⟩) n n] w fun e w' => ∃ g2 m, e = .returned (.tuple #[.slice (some ⟨g2, 0, none⟩) m m, .bool true]) ∧ Below w.heap.size w w') := fun w h => by
      obtain ⟨m, rfl, _⟩ := id hk
      refine (implFL_yes (some ⟨g, 0, none⟩) m (6 * m) f hk w (rowI_of h)).mono ?_
      rintro e w2 ⟨g2, rfl, _, _, hb⟩
      exact ⟨g2, m, rfl, hb⟩
    have hn6 : 6 ≤ n ∧ n ≤ 24 := by obtain ⟨m, e, h1, h4, _⟩ := id hk; omega
    rw [okF_yes hk, mT_yes hk, spM_yes hk]
    have Hok := Lib.hid hk
    have Hc := Lib.hid (fun w h => clone_any g n n f w h hn)
    have Hu := Lib.hid (fun M k0 F0 g c f w hM h hk => unev_n M k0 F0 g n c f w hM h hk)
    have hbe0 : Hid (be n f 0 = (f, spW n f)) := rfl
    have Hyes : Hid (∀ i B s, be n f i = (B, s) → spW n (swl f i) < s → be n f (i + 1) = (swl f i, spW n (swl f i))) := fun i B s e hlt => be_yes (by rw [e]; exact hlt)
    have Hno : Hid (∀ i B s, be n f i = (B, s) → ¬ spW n (swl f i) < s → be n f (i + 1) = (B, s)) := fun i B s e hlt => by rw [be_no (by rw [e]; exact hlt), e]
    have HbF : Hid (∀ B s, be n f (n - 1) = (B, s) → (be n f (n - 1)).2 = s ∧ beF n f = B) := fun B s e => ⟨by rw [e], by unfold beF; rw [e]⟩
    have hgl := h.lt
    have hmm := @run_makeMap Try.prog
    have H := Lib.hid h; clear h
    clear hk hm hn
    go_enter Try.func60, Try.ntmps60
    go_wp2_with fail
    refine (Hp.out _ H.out).mono ?_
    rintro e w2 ⟨g2, m, rfl, hb2⟩
    have hMm := Mapped.made w2
    have hBm := na hb2 (.map #[] 0)
    have hs2 := hb2.size
    have hsm := size_alloc w2 (.map #[] 0)
    go_wp2_with fail
    clear hmm
    refine (Hc.out _ (H.out.below hgl hBm)).mono ?_
    rintro e w3 ⟨g3, c3, rfl, hA3, hg3, hb3⟩
    have hB3 := nx hBm hb3
    have hM3 := hMm.up hb3
    have hg3' : w2.heap.size < g3 := by omega
    go_wp2_with fail
    refine (Hu.out _ _ _ _ _ _ _ hM3 (H.out.below hgl hB3) Hok.out).mono ?_
    rintro e w4 ⟨rfl, ⟨k4, F4, hM4⟩, hgr⟩
    have hA4 := keptA hA3 hgr (fun e => by injection e with e; omega)
    have hB4 := below_grown hB3 hgr hB3.size hs2
    clear hgr hA3 hM3 hMm hBm hB3 hb3 hg3 hsm hb2
    generalize spW n f = s0 at *
    go_wp2_with fail
    go_loopw [8, 9, 29] (fun bv sv iv wr => ∃ (i : Nat) (B : Nat → Int) (s : Int) (gb cb k : Nat) (F : Q4 → Nat), i + 1 ≤ n ∧ iv = .int .i64 i ∧ bv = .slice (some ⟨gb, 0, none⟩) n cb ∧ sv = .int .i64 s ∧ Hid (be n f i = (B, s)) ∧ At wr gb n B ∧ w2.heap.size < gb ∧ Mapped wr w2.heap.size k F ∧ Below w.heap.size w wr) (fun _ _ iv _ => n - (intOf iv).toNat)
    case atStart => exact ⟨0, f, s0, g3, c3, k4, F4, by omega, rfl, rfl, rfl, hbe0, hA4, hg3', hM4, hB4⟩
    case round =>
      clear hA4 hB4 hM4 hbe0 hg3'
      obtain ⟨i, B, s, gb, cb, k, F, hi, rfl, rfl, rfl, hbe, hA, hgb, hM, hB⟩ := hrel
      by_cases hlt : i + 1 < n
      · have hit : decide ((i : Int) < (n : Int) - 1) = true := decide_eq_true (by omega)
        have Hy := Lib.hid (Hyes.out i B s hbe.out)
        have Hn := Lib.hid (Hno.out i B s hbe.out)
        have Hs := Lib.hid (fun g c w hM h => Hu.out w2.heap.size k F g c (swl f i) w hM h (ok_swl Hok.out hlt))
        have hgr := hB.size
        have hal := hA.lt
        go_wp2_with fail
        refine (Hc.out _ (H.out.below hgl hB)).mono ?_
        rintro e w5 ⟨g5, c5, rfl, hA5, hg5, hb5⟩
        have hB5 := nx hB hb5
        have hAb := hA.up hb5
        have hM5 := hM.up hb5
        have hMl := hM.lt
        have hne : gb ≠ g5 := by omega
        clear hA hB hM hb5
        go_wp2_with fail
        have hw1 : IntKind.i64.wrap ((i : Int) + 1) = ((i + 1 : Nat) : Int) := (wadd1 (show i < 100 by omega)).trans (by push_cast; rfl)
        obtain ⟨i1, hi1⟩ : ∃ i1, i1 = i + 1 := ⟨_, rfl⟩
        rw [← hi1] at hw1
        have hlt1 : i1 < n := by omega
        have hw2 : ((i : Int) + 1) = (i1 : Int) := by omega
        have y0 := hA5.drew.cell i (by omega)
        have y1 := hA5.drew.cell i1 hlt1
        have z0 := hA5.drew.free i
        have z1 := hA5.drew.free i1
        have s1 := (hA5.set (i := i) (by omega) (f i1)).drew
        have s1c := s1.cell i1 hlt1
        have s1z := s1.free i1
        have s2 := (hA5.set (i := i1) hlt1 (f i)).drew
        have s2c := s2.cell i (by omega)
        have s2z := s2.free i
        have hi0 : (i : Int) < (n : Int) := by omega
        have hi2 : (i1 : Int) < (n : Int) := by omega
        have Hi1 := Lib.hid hi1
        have Hw2 := Lib.hid hw2; clear hw2
        clear hi1
        go_region
        have hsw : put (put f i (f i1)) i1 (f i) = swl f i := by rw [Hi1.out]; rfl
        have hA7 := ((hA5.set (i := i) (by omega) (f i1)).set (i := i1) hlt1 (f i)).drew
        rw [hsw] at hA7
        have hB7 := ((hB5.setCell (p := ⟨g5, i, none⟩) (by show w.heap.size ≤ g5; omega) (.int .i64 (f i1))).setCell (p := ⟨g5, i1, none⟩) (by show w.heap.size ≤ g5; omega) (.int .i64 (f i))).drew
        have hAb7 := ((hAb.other hne i (.int .i64 (f i1))).other hne i1 (.int .i64 (f i))).drew
        have hM7 : Mapped ((w5.setCell ⟨g5, i, none⟩ (.int .i64 (f i1))).setCell ⟨g5, i1, none⟩ (.int .i64 (f i))).drew w2.heap.size k F := (hM5.same (by rw [heap_setCell_other _ _ _ _ (show w2.heap.size ≠ g5 by omega), heap_setCell_other _ _ _ _ (show w2.heap.size ≠ g5 by omega)]) : Mapped ((w5.setCell ⟨g5, i, none⟩ (.int .i64 (f i1))).setCell ⟨g5, i1, none⟩ (.int .i64 (f i))) w2.heap.size k F).same rfl
        clear hA5 hB5 hAb hM5 s1 s1c s1z s2 s2c s2z
        go_wp2_with fail
        refine (Hs.out _ _ _ hM7 hA7).mono ?_
        rintro e w8 ⟨rfl, ⟨k8, F8, hM8⟩, hgr8⟩
        have hB8 := below_grown hB7 hgr8 hB7.size hs2
        have hA8 := keptA hA7 hgr8 (fun e => by injection e with e; omega)
        have hAb8 := keptA hAb7 hgr8 (fun e => by injection e with e; omega)
        clear hA7 hB7 hAb7 hM7 hgr8 y0 y1 z0 z1 hw1 hsw
        obtain rfl := Hi1.out
        generalize spW n (swl f i) = t at *
        by_cases hts : t < s
        · have hd : decide (t < s) = true := decide_eq_true hts
          have hbe' := Lib.hid (Hy.out (by omega))
          clear Hy Hn hts
          go_wp2_with fail
          go_roundw
          case rel => exact ⟨i + 1, swl f i, t, g5, c5, k8, F8, by omega, by go_num, rfl, rfl, hbe', hA8, by omega, hM8, hB8⟩
          case measure => simp [intOf]; omega
        · have hd : decide (t < s) = false := decide_eq_false hts
          have hbe' := Lib.hid (Hn.out (by omega))
          clear Hy Hn hts
          go_wp2_with fail
          go_roundw
          case rel => exact ⟨i + 1, B, s, gb, cb, k8, F8, by omega, by go_num, rfl, rfl, hbe', hAb8, hgb, hM8, hB8⟩
          case measure => simp [intOf]; omega
      · have hit : decide ((i : Int) < (n : Int) - 1) = false := decide_eq_false (by omega)
        have hbe' : Hid (be n f (n - 1) = (B, s)) := by rw [show n - 1 = i by omega]; exact hbe
        have HbF2 := Lib.hid (HbF.out B s hbe'.out)
        go_wp2_with fail
        go_ret3
        exact ⟨_, _, by rw [HbF2.out.1]; rfl, .inr ⟨gb, rfl, by omega, by rw [HbF2.out.2]; exact hA⟩, hB⟩
  · have Hk := Lib.hid (fun w h => implFL_no (some ⟨g, 0, none⟩) n n f hk w h hm)
    rw [okF_no hk, mT_no hk, spM_no hk]
    have H := Lib.hid h; clear h
    clear hk hm
    go_enter Try.func60, Try.ntmps60
    go_wp2_with fail
    refine (Hk.out _ (rowI_of H.out)).mono ?_
    rintro e w2 ⟨rfl, hb⟩
    go_wp2_with fail
    go_ret3
    exact ⟨_, _, rfl, .inl rfl, hb⟩


end MenJ
end Go.Proofs.Ytiiknpebphpeiaa
