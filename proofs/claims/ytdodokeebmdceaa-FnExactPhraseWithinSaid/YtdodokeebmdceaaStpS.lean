/-
  How much of a phrase has come: l8Step of the model.
-/
import Derived.Test.YtdodokeebmdceaaRows
import Derived.Test.YtdodokeebmdceaaArr
import Derived.Test.YtdodokeebmdceaaAnyR
import Derived.Test.YtdodokeebmdceaaDieW
import Derived.Test.YtdodokeebmdceaaSortW
import Derived.Test.YtdodokeebmdceaaFracW
import Derived.Test.YtdodokeebmdceaaFracL
import Derived.Test.YtdodokeebmdceaaCutW
import Derived.Test.YtdodokeebmdceaaAll6
import Derived.Test.YtdodokeebmdceaaAllL
import Derived.Test.YtdodokeebmdceaaOwnL
import Derived.Test.YtdodokeebmdceaaFracM
import Derived.Test.YtdodokeebmdceaaWgtM
import Derived.Test.YtdodokeebmdceaaWgtW
import Derived.Test.YtdodokeebmdceaaShelfSl
import Derived.Test.YtdodokeebmdceaaOpenI
import Derived.Test.YtdodokeebmdceaaPhrM
import Derived.Test.YtdodokeebmdceaaPhrW
import Derived.Test.YtdodokeebmdceaaPhrV
import Derived.Test.YtdodokeebmdceaaOvI
import Derived.Test.YtdodokeebmdceaaGoalW
import Derived.Test.YtdodokeebmdceaaFracB2
import Derived.Test.YtdodokeebmdceaaOvS
import Derived.Test.YtdodokeebmdceaaOpenD
import Derived.WalkKit
import Derived.WalkLawsBesides
import Derived.WalkSpells
import Derived.ProofKit
import Derived.OpenShut
import Derived.Deep.RegionWith
import Derived.Deep.QuietTactic
import Derived.BigQuiet
namespace Go.Proofs.Ytdodokeebmdceaa
open Go.ChangeShapes Go.WideShapes Go.ChangeAt Go.RowKit
open Go.ChangeMaps (open_string shut_string)

namespace StpS
open Dice Arr DieW SortW FracW CutW All6 AllL OwnL FracM WgtM WgtW OpenG PhrM PhrW AnyR PhrV OvI GoalW OvS


/-- The list of the first come numbers of a phrase, and one number behind them. -/
def nw (f : Nat → Int) (s : Nat) (x : Int) : Nat → Int := fun i => if i < s then f i else x
/-- The greatest of 1 to k for which something holds; 0 where there is none. -/
def gk (M : Nat → Bool) : Nat → Nat
  | 0 => 0
  | k + 1 => if M (k + 1) then k + 1 else gk M k
theorem gk_le (M : Nat → Bool) : ∀ k, gk M k ≤ k
  | 0 => Nat.le_refl _
  | k + 1 => by
    show (if M (k + 1) then k + 1 else gk M k) ≤ k + 1
    split
    · omega
    · have := gk_le M k; omega
theorem gk_hit {M : Nat → Bool} {k : Nat} (h : M (k + 1) = true) : gk M (k + 1) = k + 1 := by
  show (if M (k + 1) then k + 1 else gk M k) = _
  rw [if_pos h]
theorem gk_miss {M : Nat → Bool} {k : Nat} (h : M (k + 1) = false) : gk M (k + 1) = gk M k := by
  show (if M (k + 1) then k + 1 else gk M k) = _
  rw [if_neg (by rw [h]; decide)]
/-- How much of a phrase has come, when s had and x comes. -/
def tp (f : Nat → Int) (m s : Nat) (x : Int) : Nat := gk (mt (nw f s x) f (s + 1)) (min (s + 1) m)
theorem tp_le (f : Nat → Int) (m s : Nat) (x : Int) : tp f m s x ≤ m := Nat.le_trans (gk_le _ _) (by omega)

theorem least_min (a b : Int) (w : World) :
    Calls Try.prog 99 #[.int .i64 a, .int .i64 b] w fun e w' => e = .returned (.int .i64 (min a b)) ∧ w' = w := by
  by_cases h : a < b
  · rw [show min a b = a by omega]
    go_enter Try.func99, Try.ntmps99
    go_wp2
    go_ret
    exact ⟨rfl, rfl⟩
  · rw [show min a b = b by omega]
    go_enter Try.func99, Try.ntmps99
    go_wp2
    go_ret
    exact ⟨rfl, rfl⟩
theorem vals_ext {n : Nat} {f g : Nat → Int} (h : ∀ i, i < n → f i = g i) : vals n f = vals n g := by
  unfold vals
  exact List.map_congr_left fun i hi => by rw [h i (List.mem_range.1 hi)]
theorem vals_nw (f : Nat → Int) (s : Nat) (x : Int) : vals s f ++ [.int .i64 x] = vals (s + 1) (nw f s x) := by
  have h := vals_snoc s (nw f s x)
  rw [vals_ext (n := s) (f := nw f s x) (g := f) fun i hi => by show (if i < s then f i else x) = f i; rw [if_pos hi]] at h
  rw [← h]
  show _ = _ ++ [Value.int .i64 (if s < s then f s else x)]
  rw [if_neg (by omega)]

set_option maxRecDepth 100000 in
set_option maxHeartbeats 4000000 in
theorem specStep_any (gb m : Nat) (f : Nat → Int) (s : Nat) (x : Int) (w : World) (hC : At w gb m f) (hm : 1 ≤ m ∧ m ≤ 6) (hs : s < m) :
    Calls Try.prog 79 #[.slice (some ⟨gb, 0, none⟩) m m, .int .i64 s, .int .i64 x] w fun e w' => e = .returned (.int .i64 (tp f m s x : Nat)) ∧ Below w.heap.size w w' := by
  obtain ⟨i0, hi, hz0, hz1, hz2⟩ := info_parts info_int
  have Hi := Lib.hid (And.intro hi (And.intro hz0 (And.intro hz1 hz2)))
  clear hi hz0 hz1 hz2
  have hown : ∀ w, At w gb m f → Calls Try.prog 85 #[.slice (some ⟨gb, 0, none⟩) s m] w fun e w' => ∃ g' c', e = .returned (.slice (some ⟨g', 0, none⟩) s c') ∧ w'.ownsRow w.heap.size 3 1 (.slice (some ⟨g', 0, none⟩) s c') s (vals s f) ∧ Below w.heap.size w w' := fun w h => l1Own_any gb s m f w h.lt (fun k hk => h.cell k (by omega)) (by omega)
  have Hown := Lib.hid hown; clear hown
  have hsl : ∀ (k : Nat) (hk : k ≤ m) (w : World), (Instr.slice 37 (.slice (some ⟨gb, 0, none⟩) m m) none (some (.int .i64 (k : Nat))) none).run Try.prog w = .ok (.slice (some ⟨gb, 0, none⟩) k m) w := fun k hk w => sl_to (g := gb) (n := m) (c := m) hk hm.1 w
  have Hsl := Lib.hid hsl; clear hsl
  have hmin := fun (s1 : Nat) (h : s1 = s + 1) => least_min (s1 : Int) (m : Int)
  obtain ⟨K, hK⟩ : ∃ K, K = min (s + 1) m := ⟨_, rfl⟩
  obtain ⟨s1, hs1⟩ : ∃ s1, s1 = s + 1 := ⟨_, rfl⟩
  have hl1 : ∀ w, Calls Try.prog 99 #[.int .i64 (s1 : Nat), .int .i64 (m : Nat)] w fun e w' => e = .returned (.int .i64 (K : Nat)) ∧ w' = w := fun w => by
    have := least_min (s1 : Int) (m : Int) w
    rw [show min (s1 : Int) (m : Int) = (K : Int) by omega] at this
    exact this
  have Hl1 := Lib.hid hl1; clear hl1 hmin
  obtain ⟨M, hM⟩ : ∃ M, M = mt (nw f s x) f (s + 1) := ⟨_, rfl⟩
  have HM := Lib.hid hM
  have htp : tp f m s x = gk M K := by rw [hM, hK]; rfl
  rw [htp]
  clear htp hM
  have hK1 : K ≤ s1 := by omega
  have hKm : K ≤ m := by omega
  have hs7 : s1 ≤ 6 := by omega
  clear hK
  have Hs1 := Lib.hid hs1; clear hs1
  have Hsame := Lib.hid (fun (A A' : Option Addr) (k c c' : Nat) (f g : Nat → Int) (w : World) (h : RowI w A k f) (h' : RowI w A' k g) (hk : k ≤ 1048576) => same_any A A' k c c' f g w h h' hk)
  have HC := Lib.hid hC
  clear hC
  have h0 := Hsl.out s (by omega)
  go_enter Try.func79, Try.ntmps79
  go_wp2_with fail
  refine (Hown.out _ HC.out).mono ?_
  rintro e w1 ⟨g1, c1, rfl, hO1, hb1⟩
  have hB1 := nx (n0 w) hb1
  clear hb1
  go_wp2_with (at_builtin; refine wpList_append_own _ rfl _ _ 37 rfl w.heap.size 3 i0 (.int .i64 0) 1 8 Try.underlying37 Hi.out.1 Hi.out.2.1 Hi.out.2.2.1 Hi.out.2.2.2 rfl (by decide) _ _ _ rfl (hO1.alloc _) ⟨w1.heap.size, 0, none⟩ 1 1 [.int .i64 x] rfl rfl ?c1 ?c2 ?c3 ?c4 ?c5 ?_)
  case c1 => exact news_one (cell_one _ _ _)
  case c2 => intro u hu; simp at hu; subst hu; rfl
  case c3 => unfold maxLen; omega
  case c4 => omega
  case c5 => have := hB1.size; simp; omega
  · intro v' w4 hO4 hg4 hv4
    have hB4 := (na hB1 (.cells #[.int .i64 x] 3)).grown hg4 (by rw [size_alloc]; have := hB1.size; omega) (fun t e => by have := (hO1.lt t e).1; omega)
    rw [vals_nw, ← Hs1.out] at hO4
    obtain ⟨g', c', rfl, hge, _⟩ := own_form hO4 hv4
    have hcc := own_cap hO4
    have hN := At.of_own hO4
    clear hg4 hO1 hO4 hB1
    go_wp2_with fail
    refine (Hl1.out _).mono ?_
    rintro e w5 ⟨rfl, rfl⟩
    have HN := Lib.hid hN; clear hN
    have HB := Lib.hid hB4; clear hB4
    go_wp2_with fail
    go_loopw [8] (fun kv wr => ∃ k : Nat, k ≤ K ∧ kv = .int .i64 k ∧ Hid (gk M K = gk M k) ∧ Below w5.heap.size w5 wr) (fun kv _ => (intOf kv).toNat)
    case atStart => exact ⟨K, Nat.le_refl _, rfl, rfl, n0 w5⟩
    case round =>
      obtain ⟨k, hk, rfl, hg, hB⟩ := hrel
      by_cases hlt : 0 < k
      · obtain ⟨k0, hk0⟩ : ∃ k0, k = k0 + 1 := ⟨k - 1, by omega⟩
        have hit : decide ((k : Int) > 0) = true := decide_eq_true (by omega)
        have Hsub : (s1 : Int) - (k : Int) = ((s1 - k : Nat) : Int) := by omega
        have hwsub : IntKind.i64.wrap ((s1 - k : Nat) : Int) = ((s1 - k : Nat) : Int) := FracL.wrap_sameL _ (by omega) (by omega)
        have hsub1 : (k : Int) - 1 = (k0 : Int) := by omega
        have hwr1 : IntKind.i64.wrap (k0 : Int) = (k0 : Int) := FracL.wrap_sameL _ (by omega) (by omega)
        have hk0K : k0 ≤ K := by omega
        have hk0l : k0 < k := by omega
        have Hk0 := Lib.hid hk0; clear hk0
        have hsa : ∀ w, (Instr.slice 37 (.slice (some ⟨g', 0, none⟩) s1 c') (some (.int .i64 (s1 - k : Nat))) none none).run Try.prog w = .ok (.slice (some ⟨g', s1 - k, none⟩) k (c' - (s1 - k))) w := fun w => by
          have := sl_from (g := g') (n := s1) (c := c') (l := s1 - k) (by omega) (by omega) w
          rw [show s1 - (s1 - k) = k by omega] at this
          exact this
        have hsb := Hsl.out k (by omega)
        have hqk : ∀ w, At w g' s1 (nw f s x) → At w gb m f → Calls Try.prog 97 #[.slice (some ⟨g', s1 - k, none⟩) k (c' - (s1 - k)), .slice (some ⟨gb, 0, none⟩) k m] w fun e w' => e = .returned (.bool (M k)) ∧ Below w.heap.size w w' := fun w h1 h2 => by
          rw [HM.out]
          have := Hsame.out _ _ k (c' - (s1 - k)) m _ _ w (row_of (o := s1 - k) (m := k) h1 (by omega)) (row_to h2 (by omega)) (by omega)
          rw [← Hs1.out]
          exact this
        have Hqk := Lib.hid hqk; clear hqk
        have hCr := (HC.out.below (B := w.heap.size) HC.out.lt HB.out)
        go_wp2_with fail
        have hNr := HN.out.up hB
        have hCr2 := hCr.up hB
        clear hCr
        have HNr := Lib.hid hNr; clear hNr
        have HCr := Lib.hid hCr2; clear hCr2
        have hB5 := Lib.hid (nx HB.out hB)
        have HBr := Lib.hid hB
        clear hB
        refine wp_region_quiet (C := fun w' => Below wr.heap.size wr w') (by kernel_rfl) (by kernel_rfl) ((n0 wr).drew) ?_
        refine BigFrame.wpQuiet_want rfl (fun K hK => BigFrame.quiet_move _ rfl (hK _ ?_)); clear hK K; go_simp
        refine BigFrame.wpQuiet_want rfl (fun K hK => BigFrame.quiet_move _ rfl (hK _ ?_)); clear hK K; go_simp
        refine BigFrame.wpQuiet_want rfl (fun K hK => ?_); go_big_quiet_op; refine ⟨_, by intros; rfl, hK _ ?_⟩; clear hK K; go_simp
        refine BigFrame.wpQuiet_want rfl (fun K hK => BigFrame.quiet_move _ rfl (hK _ ?_)); clear hK K; go_simp
        refine BigFrame.wpQuiet_want rfl (fun K hK => ?_); go_big_quiet_op; refine ⟨_, by intros; rfl, hK _ ?_⟩; clear hK K; go_simp
        refine BigFrame.wpQuiet_want rfl (fun K hK => ⟨(.slice (some ⟨g', s1 - k, none⟩) k (c' - (s1 - k))), fun w' hw' => ?_, hK _ ?_⟩)
        · clear hK K
          have Hw := Lib.hid hw'; clear hw'
          go_simp
          first | done | exact ⟨rfl, rfl⟩
        clear hK K; go_simp
        refine BigFrame.wpQuiet_want rfl (fun K hK => BigFrame.quiet_move _ rfl (hK _ ?_)); clear hK K; go_simp
        refine BigFrame.wpQuiet_want rfl (fun K hK => BigFrame.quiet_move _ rfl (hK _ ?_)); clear hK K; go_simp
        refine BigFrame.wpQuiet_want rfl (fun K hK => ⟨(.slice (some ⟨gb, 0, none⟩) k m), fun w' hw' => ?_, hK _ ?_⟩)
        · clear hK K
          have Hw := Lib.hid hw'; clear hw'
          go_simp
          first | done | exact ⟨rfl, rfl⟩
        clear hK K; go_simp
        refine BigFrame.wpQuiet_want rfl (fun K hK => ⟨(.bool (M k)), fun w' hw' => ?_, hK _ ?_⟩)
        · clear hK K
          have Hw := Lib.hid hw'; clear hw'
          go_simp
          refine (Hqk.out _ (HNr.out.up Hw.out) (HCr.out.up Hw.out)).mono ?_
          rintro e w5 ⟨rfl, hb5⟩
          exact ⟨rfl, nx Hw.out hb5⟩
        clear hK K; go_simp
        refine wpQuiet_nil ?_
        intro w3 hQ
        have hBr := nx HBr.out hQ
        have hB := nx hB5.out hQ
        clear hQ
        cases hmk : M k
        · have hno : Hid (gk M K = gk M k0) := by
            have h := hg.out
            rw [Hk0.out] at hmk h
            exact Lib.hid (h.trans (gk_miss hmk))
          go_wp2_with fail
          go_roundw
          case rel => exact ⟨k0, by omega, by go_num, hno, hBr⟩
          case measure => simp [intOf]; omega
        · have hyes : Hid (gk M K = k) := by
            have h := hg.out
            rw [Hk0.out] at hmk h
            rw [Hk0.out]
            exact Lib.hid (h.trans (gk_hit hmk))
          go_wp2_with fail
          go_ret
          exact ⟨by rw [hyes.out]; rfl, hB⟩
      · obtain rfl : k = 0 := by omega
        have hit : decide (((0 : Nat) : Int) > 0) = false := by decide
        go_wp2_with fail
        go_ret
        exact ⟨by rw [hg.out]; rfl, nx HB.out hB⟩


end StpS
end Go.Proofs.Ytdodokeebmdceaa
