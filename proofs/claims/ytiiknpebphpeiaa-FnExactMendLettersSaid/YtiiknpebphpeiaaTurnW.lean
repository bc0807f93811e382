/-
  TurnLetters on both sides.
-/
import Derived.Test.YtiiknpebphpeiaaRows
import Derived.Test.YtiiknpebphpeiaaArr
import Derived.Test.YtiiknpebphpeiaaDieW
import Derived.Test.YtiiknpebphpeiaaSortW
import Derived.Test.YtiiknpebphpeiaaFour
import Derived.Test.YtiiknpebphpeiaaOrdM
import Derived.Test.YtiiknpebphpeiaaOrdK
import Derived.Test.YtiiknpebphpeiaaOrdW
import Derived.Test.YtiiknpebphpeiaaDicesW
import Derived.Test.YtiiknpebphpeiaaPoolW
import Derived.Test.YtiiknpebphpeiaaOwnL
import Derived.Test.YtiiknpebphpeiaaOpenI
import Derived.Test.YtiiknpebphpeiaaLtrM
import Derived.Test.YtiiknpebphpeiaaIntsW
import Derived.Test.YtiiknpebphpeiaaIntL
import Derived.Test.YtiiknpebphpeiaaIntsE
import Derived.Test.YtiiknpebphpeiaaLtrS
import Derived.Test.YtiiknpebphpeiaaLtrP
import Derived.Test.YtiiknpebphpeiaaLtrI
import Derived.Test.YtiiknpebphpeiaaLtrK
import Derived.Test.YtiiknpebphpeiaaLtrO
import Derived.Test.YtiiknpebphpeiaaShelfCR
import Derived.Test.YtiiknpebphpeiaaAll6
import Derived.Test.YtiiknpebphpeiaaRollN
import Derived.Test.YtiiknpebphpeiaaRollS
import Derived.Test.YtiiknpebphpeiaaOrdT
import Derived.Test.YtiiknpebphpeiaaOrdO
import Derived.Test.YtiiknpebphpeiaaOrdI
import Derived.Test.YtiiknpebphpeiaaOrdS
import Derived.Test.YtiiknpebphpeiaaAnyR
import Derived.Test.YtiiknpebphpeiaaMapO
import Derived.Test.YtiiknpebphpeiaaShelfMax
import Derived.Test.YtiiknpebphpeiaaOrdN
import Derived.Test.YtiiknpebphpeiaaOrdL
import Derived.Test.YtiiknpebphpeiaaCntI
import Derived.Test.YtiiknpebphpeiaaWayI
import Derived.Test.YtiiknpebphpeiaaWayJ
import Derived.Test.YtiiknpebphpeiaaWayS
import Derived.Test.YtiiknpebphpeiaaWayT
import Derived.Test.YtiiknpebphpeiaaOpenD
import Derived.WalkKit
import Derived.WalkLawsBesides
import Derived.WalkSpells
import Derived.ProofKit
import Derived.OpenShut
import Derived.Deep.RegionWith
import Derived.Deep.QuietTactic
import Derived.BigQuiet
namespace Go.Proofs.Ytiiknpebphpeiaa
open Go.ChangeShapes Go.WideShapes Go.ChangeAt Go.RowKit
open Go.ChangeMaps (open_string shut_string)

namespace TurnW
open Dice Arr OpenD DieW SortW DicesW PoolW All6 IntsW RollW Four OwnL OrdM OrdT OrdW OrdO OrdI OrdK OrdS AnyR MapO OrdN OrdL CntI WayI WayJ WayS WayT OpenG LtrM LtrS LtrP LtrI LtrK LtrO

/-- Some cells of an array written anew. -/
def lay (F : Nat → Int) (off n : Nat) (ys : List Int) : Nat → Int := fun j => if off ≤ j ∧ j < off + n then ys.getD (j - off) 0 else F j
theorem atLay {w : World} {b m : Nat} {F : Nat → Int} (h : At w b m F) {off n : Nat} {ys : List Int} (hy : ys.length = n) (ho : off + n ≤ m) : At (w.setCells b off (ys.map (Value.int .i64))) b m (lay F off n ys) := by
  refine ⟨Nat.lt_of_lt_of_le h.lt (setCells_below (B := 0) (Nat.zero_le _) _ _).size, fun k hk => ?_, fun k => by rw [World.frozen?_setCells]; exact h.free k⟩
  by_cases hin : off ≤ k ∧ k < off + n
  · have h1 := World.cell?_setCells_in b (ys.map (Value.int .i64)) off w (fun j hj => by rw [List.length_map, hy] at hj; rw [h.cell (off + j) (by omega)]; rfl) (k - off) (by rw [List.length_map, hy]; omega)
    rw [show off + (k - off) = k by omega] at h1
    rw [h1]
    show _ = some (Value.int .i64 (if off ≤ k ∧ k < off + n then ys.getD (k - off) 0 else F k))
    rw [if_pos hin, List.getElem_map, List.getD_eq_getElem?_getD, List.getElem?_eq_getElem (by rw [hy]; omega)]
    rfl
  · rw [World.cell?_setCells_out b _ off w ⟨b, k, none⟩ (fun _ _ => by rw [List.length_map, hy]; show k < off ∨ off + n ≤ k; omega)]
    show _ = some (Value.int .i64 (if off ≤ k ∧ k < off + n then ys.getD (k - off) 0 else F k))
    rw [if_neg hin]
    exact h.cell k hk
theorem lay_lay (F : Nat → Int) (off n : Nat) (ys zs : List Int) : lay (lay F off n ys) off n zs = lay F off n zs := by
  funext j
  unfold lay
  split
  · rfl
  · rfl
theorem holds_part {w : World} {b m : Nat} {F : Nat → Int} (h : At w b m F) {off n : Nat} {ys : List Int} (hy : ys.length = n) (ho : off + n ≤ m) (he : ∀ j, j < n → F (off + j) = ys.getD j 0) : Go.Sort.Holds (Value.int .i64) w b off ys.toArray := by
  have hH := Lib.holds_of_ints (w := w) (b := b) (off := off) (n := n) (zs := ys) (Nat.le_of_eq hy.symm) (fun j hj => by rw [← he j (by omega)]; exact h.cell _ (by omega)) (fun j _ => h.free _)
  rw [List.take_of_length_le (Nat.le_of_eq hy)] at hH
  exact hH
theorem sorted_at {w : World} {b m : Nat} {F : Nat → Int} (h : At w b m F) {off n : Nat} {ys : List Int} (hy : ys.length = n) (ho : off + n ≤ m) (q : Nat) (os : Array Obj) :
    At (Go.Sort.grow ((w.drewN q).setCells b off (ys.map (Value.int .i64))) os) b m (lay F off n ys) ∧ (∀ B, B ≤ b → Below B w (Go.Sort.grow ((w.drewN q).setCells b off (ys.map (Value.int .i64))) os)) ∧ (∀ p n f, p ≠ b → At w p n f → At (Go.Sort.grow ((w.drewN q).setCells b off (ys.map (Value.int .i64))) os) p n f) := by
  refine ⟨At.grown (atLay (h.drewN q) hy ho) os, fun B hB => ?_, fun p n f hp hf => At.grown ((hf.drewN q).keep hp _ _) os⟩
  have h1 : Below B w ((w.drewN q).setCells b off (ys.map (Value.int .i64))) := (below_drewN (Below.refl B w) q).trans (setCells_below hB _ _)
  exact h1.trans (below_grow _ os (Nat.le_trans hB (Nat.le_trans (Nat.le_of_lt h.lt) h1.size)))
theorem grow_none (w : World) : Go.Sort.grow w #[] = w := by simp [Go.Sort.grow]

def ft (n : Nat) (f : Nat → Int) (i : Nat) : Int := f (n - 1 - i)
theorem turn_any (b n c : Nat) (f : Nat → Int) (w : World) (h : At w b n f) (hn : n < 4611686018427387904) :
    Calls Try.prog 87 #[.slice (some ⟨b, 0, none⟩) n c] w fun e w' => e = .returned (.tuple #[]) ∧ At w' b n (ft n f) ∧ (∀ B, B ≤ b → Below B w w') := by
  obtain ⟨ys, hys⟩ : ∃ ys, ys = (List.range n).map f := ⟨_, rfl⟩
  have hy : ys.length = n := by rw [hys]; simp
  have hH := holds_part h hy (show 0 + n ≤ n by omega) (fun j hj => by
    rw [Nat.zero_add, hys, List.getD_eq_getElem?_getD, List.getElem?_map, List.getElem?_range hj]; rfl)
  have hc := Try.slices_Reverse_int b 0 c ys w hH (by omega)
  rw [hy] at hc
  refine hc.mono ?_
  rintro e w' ⟨he, q, hw⟩
  have hs := Lib.sorted_world (Value.int .i64) w b 0 q _ ys.reverse #[] hH (by simp)
  rw [grow_none, grow_none] at hs
  rw [hs] at hw
  subst hw
  have := sorted_at h (ys := ys.reverse) (by rw [List.length_reverse, hy]) (show 0 + n ≤ n by omega) q #[]
  rw [grow_none] at this
  refine ⟨he, this.1.congr fun i hi => ?_, this.2.1⟩
  unfold lay ft
  rw [if_pos (by omega), List.getD_eq_getElem?_getD, List.getElem?_eq_getElem (by rw [List.length_reverse, hy]; omega), Option.getD_some, List.getElem_reverse]
  simp only [hys, List.getElem_map, List.getElem_range, List.length_map, List.length_range]
  rw [Nat.sub_zero]
theorem clone_any (b n c : Nat) (f : Nat → Int) (w : World) (h : At w b n f) (hn : n ≤ 1048576) :
    Calls Try.prog 86 #[.slice (some ⟨b, 0, none⟩) n c] w fun e w' => ∃ g' c', e = .returned (.slice (some ⟨g', 0, none⟩) n c') ∧ At w' g' n f ∧ w.heap.size ≤ g' ∧ Below w.heap.size w w' := by
  have gd : ∀ j, j < n → ((List.range n).map f).getD j 0 = f j := fun j hj => by
    rw [List.getD_eq_getElem?_getD, List.getElem?_map, List.getElem?_range hj]; rfl
  refine (Try.slices_Clone_int b 0 n c ((List.range n).map f) w (by simp) (by omega) (fun j hj => by
    have hj' : j < n := by simpa using hj
    rw [gd j hj', Nat.zero_add]
    exact h.cell j hj')).mono ?_
  rintro e w' ⟨v', rfl, ho, hv, hb⟩
  rw [List.take_of_length_le (by simp), List.map_map] at ho
  obtain ⟨g', c', rfl, hB, _⟩ := own_form ho hv
  exact ⟨g', c', rfl, At.of_own ho, hB, hb⟩

noncomputable def mT (n : Nat) (f : Nat → Int) : Nat := if okF n f then n else 0
theorem mT_yes {n : Nat} {f : Nat → Int} (h : Ok f n) : mT n f = n := by unfold mT; rw [okF_yes h]; rfl
theorem mT_no {n : Nat} {f : Nat → Int} (h : ¬ Ok f n) : mT n f = 0 := by unfold mT; rw [okF_no h]; rfl
theorem mT_le (n : Nat) (f : Nat → Int) : mT n f ≤ 1048576 := by
  by_cases h : Ok f n
  · obtain ⟨m, e, _, h4, _⟩ := id h
    rw [mT_yes h]; omega
  · rw [mT_no h]; omega

set_option maxRecDepth 20000 in
set_option maxHeartbeats 4000000 in
theorem implT_any (g n : Nat) (f : Nat → Int) (w : World) (h : At w g n f) (hn : n ≤ 1048576) :
    Calls Try.prog 54 #[.slice (some ⟨g, 0, none⟩) n n] w fun e w' => ∃ A c, e = .returned (.tuple #[.slice A (mT n f) c, .bool (okF n f)]) ∧ Ints w.heap.size w' A (mT n f) (ft n f) ∧ Below w.heap.size w w' := by
  have hm : n ≤ maxLen := by unfold maxLen; omega
  by_cases hk : Ok f n
  · have Hp : Hid (∀ w, At w g n f → Calls Try.prog 51 #[.slice (some ⟨g, 0, none⟩) n n] w fun e w' => ∃ g2 m, e = .returned (.tuple #[.slice (some ⟨g2, 0, none⟩) m m, .bool true]) ∧ Below w.heap.size w w') := fun w h => by
      obtain ⟨m, rfl, _⟩ := id hk
      refine (implFL_yes (some ⟨g, 0, none⟩) m (6 * m) f hk w (rowI_of h)).mono ?_
      rintro e w2 ⟨g2, rfl, _, _, hb⟩
      exact ⟨g2, m, rfl, hb⟩
    rw [okF_yes hk, mT_yes hk]
    have Hc := Lib.hid (fun w h => clone_any g n n f w h hn)
    have Ht := Lib.hid (fun b c w h => turn_any b n c f w h (by omega))
    have H := Lib.hid h; clear h
    clear hk hm
    go_enter Try.func54, Try.ntmps54
    go_wp2_with fail
    refine (Hp.out _ H.out).mono ?_
    rintro e w2 ⟨g2, m, rfl, hb2⟩
    go_wp2_with fail
    refine (Hc.out _ (H.out.up hb2)).mono ?_
    rintro e w3 ⟨g3, c3, rfl, hA3, hg3, hb3⟩
    have hB3 := nx hb2 hb3
    have hsz := hb2.size
    go_wp2_with fail
    refine (Ht.out _ _ _ hA3).mono ?_
    rintro e w4 ⟨rfl, hA4, hb4⟩
    have hB4 := hB3.trans (hb4 _ (by omega))
    go_wp2_with fail
    go_ret2
    exact ⟨_, _, rfl, .inr ⟨g3, rfl, by omega, hA4⟩, hB4⟩
  · have Hk := Lib.hid (fun w h => implFL_no (some ⟨g, 0, none⟩) n n f hk w h hm)
    rw [okF_no hk, mT_no hk]
    have H := Lib.hid h; clear h
    clear hk hm
    go_enter Try.func54, Try.ntmps54
    go_wp2_with fail
    refine (Hk.out _ (rowI_of H.out)).mono ?_
    rintro e w2 ⟨rfl, hb⟩
    go_wp2_with fail
    go_ret2
    exact ⟨_, _, rfl, .inl rfl, hb⟩

set_option maxRecDepth 20000 in
set_option maxHeartbeats 4000000 in
theorem specT_any (g n : Nat) (f : Nat → Int) (w : World) (h : At w g n f) (hn : n ≤ 1048576) :
    Calls Try.prog 53 #[.slice (some ⟨g, 0, none⟩) n n] w fun e w' => ∃ A c, e = .returned (.tuple #[.slice A (mT n f) c, .bool (okF n f)]) ∧ Ints w.heap.size w' A (mT n f) (ft n f) ∧ Below w.heap.size w w' := by
  have hm : n ≤ maxLen := by unfold maxLen; omega
  by_cases hk : Ok f n
  · have hn6 : 6 ≤ n ∧ n ≤ 24 := by obtain ⟨m, e, h1, h4, _⟩ := id hk; omega
    have Hk := Lib.hid (fun w h => specOkL_any (some ⟨g, 0, none⟩) n n f true ⟨fun _ => hk, fun _ => rfl⟩ w h hm)
    rw [okF_yes hk, mT_yes hk]
    clear hk hm hn
    obtain ⟨i0, hi, hz0, hz1, hz2⟩ := info_parts OwnL.info_int
    have Hi := Lib.hid (And.intro hi (And.intro hz0 (And.intro hz1 hz2)))
    clear hi hz0 hz1 hz2
    have hO0 : (w.alloc (.cells #[] 3)).ownsRow w.heap.size 3 1 (.slice (some ⟨w.heap.size, 0, none⟩) 0 0) 0 [] := World.ownsRow_made w #[] 0 (Nat.le_refl _) (by decide) rfl
    have hB0 := na (n0 w) (.cells #[] 3)
    have hA0 := h.past (.cells #[] 3)
    have hgl := h.lt
    have H := Lib.hid h; clear h
    go_enter Try.func53, Try.ntmps53
    go_wp2_with fail
    refine (Hk.out _ (rowI_of hA0)).mono ?_
    rintro e w2 ⟨rfl, hb⟩
    have hA2 := hA0.up hb
    have hB2 := hB0.trans (hb.mono hB0.size)
    have hO2 := OwnL.own_up hO0 hb
    clear hA0 hB0 hO0 hb
    go_wp2_with fail
    go_loopw [4, 5] (fun v iv wr => ∃ k : Nat, ((∃ j : Nat, iv = .int .i64 j ∧ k + j + 1 = n) ∨ (iv = .int .i64 (-1) ∧ k = n)) ∧ wr.ownsRow w.heap.size 3 1 v k (vals k (ft n f)) ∧ Below w.heap.size w wr) (fun _ iv _ => (intOf iv + 1).toNat)
    case atStart => exact ⟨0, .inl ⟨n - 1, by congr 1; omega, by omega⟩, hO2, hB2⟩
    case round =>
      clear hA2 hO2 hB2
      obtain ⟨k, hcase, hO, hB⟩ := hrel
      rcases hcase with ⟨j, rfl, hkj⟩ | ⟨rfl, rfl⟩
      · have hjn : j < n := by omega
        have hit : decide ((0 : Int) ≤ (j : Int)) = true := decide_eq_true (by omega)
        have cj := (H.out.below hgl hB).cell j hjn
        have hvs := vals_snoc k (ft n f)
        rw [show ft n f k = f j from by unfold ft; rw [show n - 1 - k = j by omega]] at hvs
        have Hvs := Lib.hid hvs; clear hvs
        generalize f j = x at *
        have hsr := hB.size
        go_wp2_with (at_builtin; refine wpList_append_own _ rfl _ _ 39 rfl (w.heap.size) 3 i0 (.int .i64 0) 1 8 Try.underlying39 Hi.out.1 Hi.out.2.1 Hi.out.2.2.1 Hi.out.2.2.2 rfl (by decide) _ _ _ rfl (hO.alloc _) ⟨_, 0, none⟩ 1 1 [.int .i64 x] rfl rfl ?c1 ?c2 ?c3 ?c4 ?c5 ?_)
        case c1 => exact news_one (cell_one _ _ _)
        case c2 => intro u hu; simp at hu; subst hu; rfl
        case c3 => unfold maxLen; omega
        case c4 => omega
        case c5 => simp; omega
        · intro v' w4 hO4 hg4 _
          have hB4 := (hB.alloc hB.size (.cells #[.int .i64 x] 3)).grown hg4 (by rw [size_alloc]; exact Nat.le_trans hB.size (Nat.le_succ _)) (fun t e => (hO.lt t e).1)
          rw [Hvs.out] at hO4
          clear hg4
          go_wp2_with fail
          go_roundw
          case rel =>
            cases j with
            | zero => exact ⟨k + 1, .inr ⟨rfl, by omega⟩, hO4, hB4⟩
            | succ j => exact ⟨k + 1, .inl ⟨j, by congr 1 <;> omega, by omega⟩, hO4, hB4⟩
          case measure => first | (simp [intOf]; done) | (simp [intOf]; omega)
      · obtain ⟨A, c2, rfl, hI⟩ := ints_own hO
        clear hO
        go_wp2_with fail
        go_ret2
        exact ⟨A, c2, rfl, hI, hB⟩
  · have Hk := Lib.hid (fun w h => specOkL_any (some ⟨g, 0, none⟩) n n f false ⟨fun h => (by cases h), fun h => absurd h hk⟩ w h hm)
    rw [okF_no hk, mT_no hk]
    have hA0 := h.past (.cells #[] 3)
    have hB0 := na (n0 w) (.cells #[] 3)
    clear h
    clear hk hm
    go_enter Try.func53, Try.ntmps53
    go_wp2_with fail
    refine (Hk.out _ (rowI_of hA0)).mono ?_
    rintro e w2 ⟨rfl, hb⟩
    go_wp2_with fail
    go_ret2
    exact ⟨_, _, rfl, .inl rfl, hB0.trans (hb.mono hB0.size)⟩


end TurnW
end Go.Proofs.Ytiiknpebphpeiaa
