/-
  Runs to a goal, by the specification: the ways to get there with each roll.
-/
import Derived.Test.YtcffglnfdnanhaaRows
import Derived.Test.YtcffglnfdnanhaaArr
import Derived.Test.YtcffglnfdnanhaaAnyR
import Derived.Test.YtcffglnfdnanhaaDieW
import Derived.Test.YtcffglnfdnanhaaSortW
import Derived.Test.YtcffglnfdnanhaaFracW
import Derived.Test.YtcffglnfdnanhaaAll6
import Derived.Test.YtcffglnfdnanhaaAllL
import Derived.Test.YtcffglnfdnanhaaOwnL
import Derived.Test.YtcffglnfdnanhaaRunM
import Derived.Test.YtcffglnfdnanhaaRunI
import Derived.Test.YtcffglnfdnanhaaOpenD
import Derived.WalkKit
import Derived.OwnWalk
import Derived.Lib.AppendZeros
import Derived.BigRegion
import Derived.WalkLawsBesides
import Derived.WalkSpells
import Derived.ProofKit
import Derived.OpenShut
import Derived.Deep.RegionWith
import Derived.Deep.QuietTactic
import Derived.BigQuiet
namespace Go.Proofs.Ytcffglnfdnanhaa
open Go.ChangeShapes Go.WideShapes Go.ChangeAt Go.RowKit
open Go.ChangeMaps (open_string shut_string)

namespace RunS
open Dice Arr DieW SortW FracW All6 AllL OwnL StopM RunM RunI


theorem keptO {w w' : World} {b n : Nat} {row : Option Nat} {f : Nat → Int} (h : At w b n f) (hg : w.grownBy w' row) (hb : some b ≠ row) : At w' b n f :=
  ⟨Nat.lt_of_lt_of_le h.lt hg.size, fun k hk => (World.cell?_of_block (w := w) (hg.block b h.lt hb)).trans (h.cell k hk), fun k => (World.frozen?_of_block (w := w) (hg.block b h.lt hb)).trans (h.free k)⟩
theorem own_one (w : World) (x : Value) : (w.alloc (.cells #[x] 3)).ownsRow w.heap.size 3 1 (.slice (some ⟨w.heap.size, 0, none⟩) 1 1) 1 [x] :=
  ⟨by simp, .inr ⟨w.heap.size, 1, #[x], rfl, Nat.le_refl _, heap_alloc_new w _, Nat.le_refl 1, by unfold maxLen; omega, rfl, by simp⟩⟩
/-- The ways that the specification lists. -/
def outF (f : Nat → Nat) (g : Nat) : Nat → Int := fun j => if j = 0 then 0 else (T f g (j - 1) : Int)
theorem outF_snoc (f : Nat → Nat) (g n : Nat) : vals (n + 1) (outF f g) ++ [.int .i64 (T f g n : Nat)] = vals (n + 1 + 1) (outF f g) := by
  rw [← vals_snoc (n + 1)]
  rfl
theorem small0 (f : Nat → Nat) {g k : Nat} (h1 : 1 ≤ g) (hk : k ≤ 7) : Small f (P f g k) g := by
  have h := small_part f (g := g) (k := k) (a := 0) h1 (by omega)
  have e : (fun s => 6 ^ 0 * P f g k s) = P f g k := by funext s; rw [Nat.pow_zero, Nat.one_mul]
  rwa [e] at h
theorem own_list {w : World} {B n : Nat} {v : Value} {f : Nat → Int} (h : w.ownsRow B 3 1 v n (vals n f)) (hn : 0 < n) : ∃ b c, v = .slice (some ⟨b, 0, none⟩) n c ∧ B ≤ b ∧ At w b n f := by
  rcases h.2 with ⟨rfl, h0⟩ | ⟨g, cap, cur, rfl, hb, hg, hnc, hcm, hcs, htake⟩
  · omega
  · exact ⟨g, cap, rfl, hb, (Array.getElem?_eq_some_iff.1 hg).1, fun k hk => (h.cellAt k (by omega)).trans (vals_get hk), fun k => h.frozenAt k⟩

set_option maxRecDepth 100000 in
set_option maxHeartbeats 16000000 in
theorem specRun_any (d : Nat → Int) (f : Nat → Nat) (g : Nat) (w : World) (hd : faces d f) (h1 : 1 ≤ g) (h8 : g ≤ 8) :
    Calls Try.prog 54 #[dv d, .int .i64 g] w fun e w' => ∃ b c, e = .returned (.slice (some ⟨b, 0, none⟩) (g + 1) c) ∧ w.heap.size ≤ b ∧ At w' b (g + 1) (outF f g) ∧ Below w.heap.size w w' := by
  obtain ⟨i0, hi, hz0, hz1, hz2⟩ := info_parts info_int
  have Hi := Lib.hid (And.intro hi (And.intro hz0 (And.intro hz1 hz2)))
  clear hi hz0 hz1 hz2
  have Hd := Lib.hid hd; clear hd
  unfold dv
  have hB0 := na (n0 w) (sixO d 22)
  have hD0 := At.new6 w d 22 rfl
  obtain ⟨w1, hr1, hE1, hb1⟩ := make_ints (w.alloc (sixO d 22)) g (by omega)
  have hB1 := nx hB0 hb1
  have hD1 := hD0.up hb1
  have hlt1 := hD0.lt
  obtain ⟨r0, hr0⟩ : ∃ b, b = (w.alloc (sixO d 22)).heap.size := ⟨_, rfl⟩
  rw [← hr0] at hr1 hE1 hlt1
  clear hr0 hb1 hB0 hD0
  have hltE := hE1.lt
  have zr := hE1.free 0
  have cr := hE1.cell 0 (by omega)
  have hE2 := hE1.set (i := 0) (by omega) 1
  have hD2 := hD1.other (p := r0) (by omega) 0 (.int .i64 1)
  have hB2 := hB1.setCell (p := ⟨r0, 0, none⟩) (by show w.heap.size ≤ r0; omega) (.int .i64 1)
  have hss : (w1.setCell ⟨r0, 0, none⟩ (.int .i64 1)).heap.size = w1.heap.size := by simp [World.setCell]
  have hO2 := own_mono (own_one (w1.setCell ⟨r0, 0, none⟩ (.int .i64 1)) (.int .i64 0)) (B' := w.heap.size + 1) (by rw [hss]; omega)
  rw [hss] at hO2
  have hB3 := na hB2 (.cells #[.int .i64 0] 3)
  have hD3 := hD2.past (.cells #[.int .i64 0] 3)
  have hE3 := hE2.past (.cells #[.int .i64 0] 3)
  clear hB1 hD1 hE1 hB2 hD2 hE2 hss
  go_enter Try.func54, Try.ntmps54
  go_wp2_with fail
  clear hr1 zr cr
  go_loopw [5, 6, 7] (fun rv ov kv wr => ∃ k n r : Nat, n = k + 1 ∧ k ≤ g ∧ kv = .int .i64 n ∧ rv = .slice (some ⟨r, 0, none⟩) g g ∧ w.heap.size < r ∧ At wr r g (fun s => (P f g k s : Int)) ∧ wr.ownsRow (w.heap.size + 1) 3 1 ov n (vals n (outF f g)) ∧ At wr w.heap.size 6 d ∧ Below w.heap.size w wr) (fun _ _ kv _ => g + 1 - (intOf kv).toNat)
  case atStart =>
    refine ⟨0, 1, r0, rfl, by omega, rfl, rfl, hlt1, hE3.congr fun s hs => ?_, hO2, hD3, hB3⟩
    unfold put
    show _ = ((if s = 0 then 1 else 0 : Nat) : Int)
    by_cases h0 : s = 0
    · subst h0; rfl
    · rw [if_neg h0, if_neg h0]; rfl
  case round =>
    clear hO2 hE3 hD3 hB3 hlt1
    obtain ⟨W0, rfl⟩ : ∃ W0, W0 = wr := ⟨wr, rfl⟩
    obtain ⟨k, n, r, hn, hk, rfl, rfl, hwr, hR, hO, hD, hB⟩ := hrel
    by_cases hlt : k < g
    · have hit : decide ((n : Int) ≤ (g : Int)) = true := decide_eq_true (by omega)
      have HS := Lib.hid (small0 f (g := g) (k := k) h1 (by omega))
      have eP : Hid (∀ t, P f g (k + 1) t = nxt f (P f g k) (6 * g) t) := fun t => rfl
      have eT : Hid (T f g k = thr f (P f g k) g (6 * g)) := rfl
      generalize P f g k = V at *
      obtain ⟨w3, hr3, hN3, hb3⟩ := make_ints W0 g (by omega)
      obtain ⟨q, hq⟩ : ∃ q, q = W0.heap.size := ⟨_, rfl⟩
      have hrq := hR.lt
      have hsz := hB.size
      rw [← hq] at hr3 hN3 hb3 hrq hsz
      have Hq := Lib.hid hq; clear hq
      go_wp2_with fail
      clear hr3
      go_loopw [9, 10] (fun tv sv wr => ∃ s : Nat, s ≤ g ∧ sv = .int .i64 s ∧ tv = .int .i64 (thr f V g (6 * s) : Nat) ∧ At wr q g (fun t => (nxt f V (6 * s) t : Int)) ∧ Below q W0 wr) (fun _ sv _ => g - (intOf sv).toNat)
      case atStart => exact ⟨0, by omega, rfl, rfl, hN3.congr fun t _ => rfl, hb3⟩
      case round =>
        clear hN3 hb3
        obtain ⟨s, hs, rfl, rfl, hN, hBq⟩ := hrel
        by_cases hslt : s < g
        · have hits : decide ((s : Int) < (g : Int)) = true := decide_eq_true (by omega)
          have hVs := HS.out.1 s hslt
          go_wp2_with fail
          go_loopw [9, 11] (fun tv iv wr => ∃ i : Nat, i ≤ 6 ∧ iv = .int .i64 i ∧ tv = .int .i64 (thr f V g (6 * s + i) : Nat) ∧ At wr q g (fun t => (nxt f V (6 * s + i) t : Int)) ∧ Below q W0 wr) (fun _ iv _ => 6 - (intOf iv).toNat)
          case atStart => exact ⟨0, by omega, rfl, rfl, hN, hBq⟩
          case round =>
            clear hN hBq
            obtain ⟨i, hi, rfl, rfl, hN, hBq⟩ := hrel
            by_cases hi6 : i < 6
            · obtain ⟨hdi, hf1, hf30⟩ := Hd.out i hi6
              have hm1 : 6 * s + i ≤ 6 * g := by omega
              have hm2 : 6 * s + i + 1 ≤ 6 * g := by omega
              have ci := (hD.below (by omega) hBq).cell i hi6
              have cs := (hR.below hrq hBq).cell s hslt
              have hw : wrap64 ((s : Int) + d i) = (s : Int) + d i := by unfold wrap64; omega
              have hit6 : decide ((i : Int) < 6) = true := decide_eq_true (by omega)
              by_cases hge : g ≤ s + f i
              · have hst := step_out (V := V) hi6 hge
                have hdc : decide ((s : Int) + d i < (g : Int)) = false := decide_eq_false (by omega)
                have ht1 := HS.out.2.2 _ hm1
                have HT := Lib.hid hst.1
                have HT2 := Lib.hid hst.2
                clear hst
                go_wp2_with fail
                go_roundw
                case rel => exact ⟨i + 1, by omega, by go_num, by rw [show 6 * s + (i + 1) = 6 * s + i + 1 from rfl, HT2.out, Int.natCast_add], hN.congr fun t ht => by rw [show 6 * s + (i + 1) = 6 * s + i + 1 from rfl, HT.out t ht], hBq⟩
                case measure => simp [intOf]; omega
              · have hsf : s + f i < g := by omega
                have hst := step_in (V := V) hi6 hsf
                have hdc : decide ((s : Int) + d i < (g : Int)) = true := decide_eq_true (by omega)
                have hj : ((s : Int) + d i).toNat = s + f i := by omega
                have hjlt : (s : Int) + d i < (g : Int) := by omega
                have hj0 : 0 ≤ (s : Int) + d i := by omega
                have ck := hN.cell (s + f i) hsf
                have zk := hN.free (s + f i)
                have ht1 := HS.out.2.1 _ (s + f i) hm1 hsf
                have HT := Lib.hid hst.1
                have HT2 := Lib.hid hst.2
                clear hst
                go_wp2_with fail
                go_region
                all_goals
                  go_wp2_with fail
                  go_roundw
                  case rel => exact ⟨i + 1, by omega, by go_num, by rw [show 6 * s + (i + 1) = 6 * s + i + 1 from rfl, HT2.out], ((hN.set hsf _).congr fun t ht => put_nxt HT.out t).drew, (hBq.setCell (p := ⟨q, s + f i, none⟩) (Nat.le_refl _) _).drew⟩
                  case measure => simp [intOf]; omega
            · obtain rfl : i = 6 := by omega
              go_wp2_with fail
              go_roundw
              case rel => exact ⟨s + 1, by omega, by go_num, rfl, hN, hBq⟩
              case measure => simp [intOf]; omega
        · obtain rfl : s = g := by omega
          have hits : decide ((s : Int) < (s : Int)) = false := decide_eq_false (by omega)
          have hO3 := own_up hO (by rw [← Hq.out]; exact hBq)
          have hR3 := hR.below hrq hBq
          have hD3 := hD.below (by omega) hBq
          have hB3 := hB.trans (hBq.mono hsz)
          have hne : some q ≠ u6.ownBlock := fun e => by
            have := (hO.lt q e.symm).2
            have := Hq.out
            omega
          rw [← eT.out]
          have Hsn := Lib.hid (outF_snoc f s k)
          have hTk : T f s k ≤ 1679616 := by rw [eT.out]; exact HS.out.2.2 _ (Nat.le_refl _)
          have HN : Hid (∀ t, P f s (k + 1) t = nxt f V (6 * s) t) := eP
          have hN' := hN.congr (g := fun t => (P f s (k + 1) t : Int)) fun t _ => by rw [eP.out]
          clear hN hBq hR hD hB hO
          generalize T f s k = tk at *
          go_wp2_with (at_builtin; refine wpList_append_own _ rfl _ _ 51 rfl (w.heap.size + 1) 3 i0 (.int .i64 0) 1 8 Try.underlying51 Hi.out.1 Hi.out.2.1 Hi.out.2.2.1 Hi.out.2.2.2 rfl (by decide) _ _ _ rfl (hO3.alloc _) ⟨wr.heap.size, 0, none⟩ 1 1 [.int .i64 (tk : Nat)] rfl rfl ?c1 ?c2 ?c3 ?c4 ?c5 ?_)
          case c1 => exact news_one (cell_one _ _ _)
          case c2 => intro u hu; simp at hu; subst hu; rfl
          case c3 => unfold maxLen; omega
          case c4 => omega
          case c5 => have := hD3.lt; simp; omega
          · intro v' w4 hO4 hg4 _
            have hB4 := (na hB3 (.cells #[.int .i64 (tk : Nat)] 3)).grown hg4 (by rw [size_alloc]; have := hB3.size; omega) (fun t e => by have := (hO3.lt t e).1; omega)
            have hN4 := keptO (hN'.past (.cells #[.int .i64 (tk : Nat)] 3)) hg4 hne
            have hD4 := keptO (hD3.past (.cells #[.int .i64 (tk : Nat)] 3)) hg4 (fun e => by have := (hO3.lt _ e.symm).1; omega)
            have hO5 : w4.ownsRow (w.heap.size + 1) 3 1 v' (n + 1) (vals (n + 1) (outF f s)) := by subst hn; rw [← Hsn.out]; exact hO4
            clear hg4 hO4 hO3
            go_wp2_with fail
            go_roundw
            case rel => exact ⟨k + 1, n + 1, q, by omega, by omega, by go_num, rfl, by omega, hN4, hO5, hD4, hB4⟩
            case measure => simp [intOf]; omega
    · obtain rfl : k = g := by omega
      have hit : decide ((n : Int) ≤ (k : Int)) = false := decide_eq_false (by omega)
      subst hn
      obtain ⟨b, c, rfl, hb, hA⟩ := own_list hO (by omega)
      go_wp2_with fail
      go_ret
      exact ⟨b, c, rfl, by omega, hA, hB⟩


end RunS
end Go.Proofs.Ytcffglnfdnanhaa
