/-
  How much of a phrase has come: comeBehind.
-/
import Derived.Test.YtdodokeebmdceaaRows
import Derived.Test.YtdodokeebmdceaaArr
import Derived.Test.YtdodokeebmdceaaAnyR
import Derived.Test.YtdodokeebmdceaaDieW
import Derived.Test.YtdodokeebmdceaaSortW
import Derived.Test.YtdodokeebmdceaaFracW
import Derived.Test.YtdodokeebmdceaaFracL
import Derived.Test.YtdodokeebmdceaaCutW
import Derived.Test.YtdodokeebmdceaaAll6
import Derived.Test.YtdodokeebmdceaaAllL
import Derived.Test.YtdodokeebmdceaaOwnL
import Derived.Test.YtdodokeebmdceaaFracM
import Derived.Test.YtdodokeebmdceaaWgtM
import Derived.Test.YtdodokeebmdceaaWgtW
import Derived.Test.YtdodokeebmdceaaShelfSl
import Derived.Test.YtdodokeebmdceaaOpenI
import Derived.Test.YtdodokeebmdceaaPhrM
import Derived.Test.YtdodokeebmdceaaPhrW
import Derived.Test.YtdodokeebmdceaaPhrV
import Derived.Test.YtdodokeebmdceaaOvI
import Derived.Test.YtdodokeebmdceaaGoalW
import Derived.Test.YtdodokeebmdceaaFracB2
import Derived.Test.YtdodokeebmdceaaOvS
import Derived.Test.YtdodokeebmdceaaStpS
import Derived.Test.YtdodokeebmdceaaOpenD
import Derived.WalkKit
import Derived.OwnWalk
import Derived.Deep.LoopGhost
import Derived.WalkLawsBesides
import Derived.WalkSpells
import Derived.ProofKit
import Derived.OpenShut
import Derived.Deep.RegionWith
import Derived.Deep.QuietTactic
import Derived.BigQuiet
namespace Go.Proofs.Ytdodokeebmdceaa
open Go.ChangeShapes Go.WideShapes Go.ChangeAt Go.RowKit
open Go.ChangeMaps (open_string shut_string)

namespace StpI
open Dice Arr DieW SortW FracW CutW All6 AllL OwnL FracM WgtM WgtW OpenG PhrM PhrW AnyR PhrV OvI GoalW OvS StpS


set_option maxRecDepth 100000 in
set_option maxHeartbeats 4000000 in
theorem implCome_any (gb m : Nat) (f : Nat → Int) (s : Nat) (x : Int) (w : World) (hC : At w gb m f) (hm : 1 ≤ m ∧ m ≤ 6) (hs : s < m) :
    Calls Try.prog 81 #[.slice (some ⟨gb, 0, none⟩) m m, .int .i64 s, .int .i64 x] w fun e w' => e = .returned (.int .i64 (tp f m s x : Nat)) ∧ Below w.heap.size w w' := by
  obtain ⟨i0, hi, hz0, hz1, hz2⟩ := info_parts info_int
  have Hi := Lib.hid (And.intro hi (And.intro hz0 (And.intro hz1 hz2)))
  clear hi hz0 hz1 hz2
  have hown : ∀ w, At w gb m f → Calls Try.prog 93 #[.slice (some ⟨gb, 0, none⟩) s m] w fun e w' => ∃ g' c', e = .returned (.slice (some ⟨g', 0, none⟩) s c') ∧ w'.ownsRow w.heap.size 3 1 (.slice (some ⟨g', 0, none⟩) s c') s (vals s f) ∧ Below w.heap.size w w' := fun w h => by
    have gd : ∀ j, j < s → ((List.range s).map f).getD j 0 = f j := fun j hj => by
      rw [List.getD_eq_getElem?_getD, List.getElem?_map, List.getElem?_range hj]; rfl
    refine (Try.slices_Clone_int gb 0 s m ((List.range s).map f) w (by simp) (by omega) (fun j hj => by
      have hj' : j < s := by simpa using hj
      rw [gd j hj', Nat.zero_add]
      exact h.cell j (by omega))).mono ?_
    rintro e w' ⟨v', rfl, ho, hv, hb⟩
    rw [List.take_of_length_le (by simp), List.map_map] at ho
    obtain ⟨g', c', rfl, _, _⟩ := own_form ho hv
    exact ⟨g', c', rfl, ho, hb⟩
  have Hown := Lib.hid hown; clear hown
  have hsl : ∀ (k : Nat) (hk : k ≤ m) (w : World), (Instr.slice 37 (.slice (some ⟨gb, 0, none⟩) m m) none (some (.int .i64 (k : Nat))) none).run Try.prog w = .ok (.slice (some ⟨gb, 0, none⟩) k m) w := fun k hk w => sl_to (g := gb) (n := m) (c := m) hk hm.1 w
  have h0 := hsl s (by omega)
  clear hsl
  obtain ⟨s1, hs1⟩ : ∃ s1, s1 = s + 1 := ⟨_, rfl⟩
  obtain ⟨M, hM⟩ : ∃ M, M = mt (nw f s x) f (s + 1) := ⟨_, rfl⟩
  have htp : tp f m s x = gk M s1 := by rw [hM, hs1]; show gk _ (min (s + 1) m) = _; rw [show min (s + 1) m = s + 1 by omega]
  rw [htp]
  rw [← hs1] at hM
  have HM := Lib.hid hM; clear hM
  clear htp
  have hs1m : s1 ≤ m := by omega
  have hs7 : s1 ≤ 6 := by omega
  have Hs1 := Lib.hid hs1; clear hs1
  have HC := Lib.hid hC
  clear hC
  go_enter Try.func81, Try.ntmps81
  go_wp2_with fail
  go_step3
  go_wp2_with fail
  refine (Hown.out _ HC.out).mono ?_
  rintro e w1 ⟨g1, c1, rfl, hO1, hb1⟩
  have hB1 := nx (n0 w) hb1
  clear hb1
  go_wp2_with (at_builtin; refine wpList_append_own _ rfl _ _ 37 rfl w.heap.size 3 i0 (.int .i64 0) 1 8 Try.underlying37 Hi.out.1 Hi.out.2.1 Hi.out.2.2.1 Hi.out.2.2.2 rfl (by decide) _ _ _ rfl (hO1.alloc _) ⟨w1.heap.size, 0, none⟩ 1 1 [.int .i64 x] rfl rfl ?c1 ?c2 ?c3 ?c4 ?c5 ?_)
  case c1 => exact news_one (cell_one _ _ _)
  case c2 => intro u hu; simp at hu; subst hu; rfl
  case c3 => unfold maxLen; omega
  case c4 => omega
  case c5 => have := hB1.size; simp; omega
  · intro v' w4 hO4 hg4 hv4
    have hB4 := (na hB1 (.cells #[.int .i64 x] 3)).grown hg4 (by rw [size_alloc]; have := hB1.size; omega) (fun t e => by have := (hO1.lt t e).1; omega)
    rw [vals_nw, ← Hs1.out] at hO4
    obtain ⟨g', c', rfl, hge, _⟩ := own_form hO4 hv4
    have hcc := own_cap hO4
    have hN := At.of_own hO4
    have HC4 := Lib.hid (HC.out.below (B := w.heap.size) HC.out.lt hB4)
    clear hg4 hO1 hO4 hB1
    have HN := Lib.hid hN; clear hN
    have HB := Lib.hid hB4; clear hB4
    go_wp2_with fail
    go_step3
    go_wp2_with fail
    go_loopw [8] (fun kv wr => ∃ k : Nat, k ≤ s1 ∧ kv = .int .i64 k ∧ Hid (gk M s1 = gk M k) ∧ Below w4.heap.size w4 wr) (fun kv _ => (intOf kv).toNat)
    case atStart => exact ⟨s1, Nat.le_refl _, rfl, rfl, n0 w4⟩
    case round =>
      obtain ⟨k, hk, rfl, hg, hB⟩ := hrel
      by_cases hlt : 0 < k
      · obtain ⟨k0, hk0⟩ : ∃ k0, k = k0 + 1 := ⟨k - 1, by omega⟩
        have hit : decide ((k : Int) > 0) = true := decide_eq_true (by omega)
        have Hsub : (s1 : Int) - (k : Int) = ((s1 - k : Nat) : Int) := by omega
        have hwsub : IntKind.i64.wrap ((s1 - k : Nat) : Int) = ((s1 - k : Nat) : Int) := FracL.wrap_sameL _ (by omega) (by omega)
        have hsub1 : (k : Int) - 1 = (k0 : Int) := by omega
        have hwr1 : IntKind.i64.wrap (k0 : Int) = (k0 : Int) := FracL.wrap_sameL _ (by omega) (by omega)
        have hk0K : k0 ≤ s1 := by omega
        have hk0l : k0 < k := by omega
        have Hk0 := Lib.hid hk0; clear hk0
        have hsa : ∀ w, (Instr.slice 37 (.slice (some ⟨g', 0, none⟩) s1 c') (some (.int .i64 (s1 - k : Nat))) none none).run Try.prog w = .ok (.slice (some ⟨g', s1 - k, none⟩) k (c' - (s1 - k))) w := fun w => by
          have := sl_from (g := g') (n := s1) (c := c') (l := s1 - k) (by omega) (by omega) w
          rw [show s1 - (s1 - k) = k by omega] at this
          exact this
        have HBr := Lib.hid hB
        have HNr := Lib.hid (HN.out.up hB)
        have HCr := Lib.hid (HC4.out.up hB)
        have hwB := Lib.hid (nx HB.out hB)
        clear hB
        go_wp2_with fail
        go_loopw [8, 29] (fun cv iv wi => ∃ i : Nat, i ≤ k ∧ cv = .int .i64 k ∧ iv = .int .i64 i ∧ Hid (agree (fun j => nw f s x (s1 - k + j)) f i) ∧ Below wr.heap.size wr wi) (fun _ iv _ => k - (intOf iv).toNat)
        case atStart => exact ⟨0, by omega, rfl, rfl, fun j hj => by omega, n0 wr⟩
        case round =>
          obtain ⟨i, hi, rfl, rfl, hag, hb⟩ := hrel
          by_cases hik : i < k
          · have hil : decide ((i : Int) < (k : Int)) = true := decide_eq_true (by omega)
            have c1 := (HNr.out.up hb).cell (s1 - k + i) (by omega)
            have c2 := (HCr.out.up hb).cell i (by omega)
            have him : i < m := by omega
            have HB2 := Lib.hid (nx HBr.out hb)
            by_cases he : nw f s x (s1 - k + i) = f i
            · have hd : (nw f s x (s1 - k + i) != f i) = false := by simpa using he
              have hag' : Hid (agree (fun j => nw f s x (s1 - k + j)) f (i + 1)) := fun j hj => by
                by_cases hji : j = i
                · subst hji; exact he
                · exact hag.out j (by omega)
              have He := Lib.hid he; clear he hag
              go_wp2_with fail
              go_roundw
              case rel => exact ⟨i + 1, by omega, rfl, by go_num, hag', hb⟩
              case measure => simp [intOf]; omega
            · have hd : (nw f s x (s1 - k + i) != f i) = true := by simpa using he
              have hno : Hid (gk M s1 = gk M k0) := by
                have h := hg.out
                rw [Hk0.out] at h
                refine Lib.hid (h.trans (gk_miss ?_))
                rw [HM.out, ← Hk0.out]
                exact decide_eq_false fun ha => he (ha i hik)
              have He := Lib.hid he; clear he hag
              go_wp2_with fail
              go_roundw
              case rel => exact ⟨k0, by omega, by go_num, hno, HB2.out⟩
              case measure => simp [intOf]; omega
          · obtain rfl : i = k := by omega
            have hil : decide ((i : Int) < (i : Int)) = false := decide_eq_false (by omega)
            have hyes : Hid (gk M s1 = i) := by
              have h := hg.out
              rw [Hk0.out] at h
              refine Lib.hid (h.trans ((gk_hit ?_).trans Hk0.out.symm))
              rw [HM.out, ← Hk0.out]
              exact decide_eq_true hag.out
            have HBe := Lib.hid (nx hwB.out hb)
            go_wp2_with fail

            try simp only [Exit.inBlock, Exit.then]
            try rw [Exit.noGoto_ret]
            go_ret
            exact ⟨by rw [hyes.out]; rfl, HBe.out⟩
      · obtain rfl : k = 0 := by omega
        have hit : decide (((0 : Nat) : Int) > 0) = false := by decide
        have HBe := Lib.hid (nx HB.out hB)
        go_wp2_with fail
        try simp only [Exit.inBlock, Exit.then]
        try rw [Exit.noGoto_ret]
        go_ret
        exact ⟨by rw [hg.out]; rfl, HBe.out⟩


end StpI
end Go.Proofs.Ytdodokeebmdceaa
