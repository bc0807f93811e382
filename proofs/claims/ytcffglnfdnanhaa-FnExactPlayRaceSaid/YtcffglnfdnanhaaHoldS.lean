/-
  Turns, by the specification: the ways in which they end.
-/
import Derived.Test.YtcffglnfdnanhaaRows
import Derived.Test.YtcffglnfdnanhaaArr
import Derived.Test.YtcffglnfdnanhaaAnyR
import Derived.Test.YtcffglnfdnanhaaDieW
import Derived.Test.YtcffglnfdnanhaaSortW
import Derived.Test.YtcffglnfdnanhaaFracW
import Derived.Test.YtcffglnfdnanhaaFracL
import Derived.Test.YtcffglnfdnanhaaCutW
import Derived.Test.YtcffglnfdnanhaaAll6
import Derived.Test.YtcffglnfdnanhaaAllL
import Derived.Test.YtcffglnfdnanhaaOwnL
import Derived.Test.YtcffglnfdnanhaaFracM
import Derived.Test.YtcffglnfdnanhaaStopM
import Derived.Test.YtcffglnfdnanhaaRunM
import Derived.Test.YtcffglnfdnanhaaRunI
import Derived.Test.YtcffglnfdnanhaaRunS
import Derived.Test.YtcffglnfdnanhaaRunW
import Derived.Test.YtcffglnfdnanhaaHoldM
import Derived.Test.YtcffglnfdnanhaaBig41
import Derived.Test.YtcffglnfdnanhaaRunW
import Derived.Test.YtcffglnfdnanhaaOpenD
import Derived.WalkKit
import Derived.StillTail
import Derived.StillTactics
import Derived.StillTailTactics
import Derived.BigRegion
import Derived.WalkLawsBesides
import Derived.WalkSpells
import Derived.ProofKit
import Derived.OpenShut
import Derived.Deep.RegionWith
import Derived.Deep.QuietTactic
import Derived.BigQuiet
namespace Go.Proofs.Ytcffglnfdnanhaa
open Go.ChangeShapes Go.WideShapes Go.ChangeAt Go.RowKit
open Go.ChangeMaps (open_string shut_string)

namespace HoldS
open Dice Arr DieW SortW FracW CutW All6 AllL OwnL FracM StopM RunM RunI RunS RunW HoldM AnyR


/-- What has been added to the endings. -/
def ov (f : Nat → Nat) (bad h k : Nat) (V : Nat → Nat) (m : Nat) (t : Nat) : Int := ((outS f bad h k t + ad f bad h V m t : Nat) : Int)
theorem ov_next (f : Nat → Nat) (bad h k t : Nat) : ov f bad h k (fun s => 6 ^ (h - 1 - k) * N f bad h k s) (6 * h) t = ((outS f bad h (k + 1) t : Nat) : Int) := rfl
theorem ov_zero (f : Nat → Nat) (bad h k : Nat) (V : Nat → Nat) (t : Nat) : ov f bad h k V 0 t = ((outS f bad h k t : Nat) : Int) := by
  unfold ov ad
  show ((outS f bad h k t + (if t = 0 then 0 else if h ≤ t then 0 else 0) : Nat) : Int) = _
  split <;> (try split) <;> rfl
theorem ad_bad {f : Nat → Nat} {bad h s i : Nat} {V : Nat → Nat} (hi : i < 6) (hb : f i = bad) (t : Nat) : ad f bad h V (6 * s + i + 1) t = if t = 0 then ad f bad h V (6 * s + i) 0 + V s else ad f bad h V (6 * s + i) t := by
  have e1 : (if f i ≠ bad ∧ s + f i = t then V s else 0) = 0 := if_neg (fun x => x.1 hb)
  have e2 : (if f i = bad then V s else 0) = V s := if_pos hb
  unfold ad
  rw [sc_at f bad V t hi, bu_at f bad V hi, e1, e2]
  by_cases h0 : t = 0
  · subst h0; rfl
  · rw [if_neg h0, if_neg h0, if_neg h0]; rfl
theorem ad_out {f : Nat → Nat} {bad h s i : Nat} {V : Nat → Nat} (hi : i < 6) (h1 : 1 ≤ h) (hb : f i ≠ bad) (hx : h ≤ s + f i) (t : Nat) : ad f bad h V (6 * s + i + 1) t = if t = s + f i then ad f bad h V (6 * s + i) (s + f i) + V s else ad f bad h V (6 * s + i) t := by
  have e2 : (if f i = bad then V s else 0) = 0 := if_neg hb
  unfold ad
  rw [sc_at f bad V t hi, bu_at f bad V hi, e2]
  by_cases ht : t = s + f i
  · have e1 : (if f i ≠ bad ∧ s + f i = t then V s else 0) = V s := if_pos ⟨hb, ht.symm⟩
    rw [e1, if_pos ht, if_neg (show ¬ t = 0 by omega), if_pos (show h ≤ t by omega), if_neg (show ¬ s + f i = 0 by omega), if_pos hx, ht]
  · have e1 : (if f i ≠ bad ∧ s + f i = t then V s else 0) = 0 := if_neg (fun x => ht x.2.symm)
    rw [e1, if_neg ht]
    rfl
theorem ad_in {f : Nat → Nat} {bad h s i : Nat} {V : Nat → Nat} (hi : i < 6) (hb : f i ≠ bad) (hx : s + f i < h) (t : Nat) : ad f bad h V (6 * s + i + 1) t = ad f bad h V (6 * s + i) t := by
  have e2 : (if f i = bad then V s else 0) = 0 := if_neg hb
  unfold ad
  rw [sc_at f bad V t hi, bu_at f bad V hi, e2]
  by_cases h0 : t = 0
  · rw [if_pos h0, if_pos h0]; rfl
  · rw [if_neg h0, if_neg h0]
    by_cases hht : h ≤ t
    · have e1 : (if f i ≠ bad ∧ s + f i = t then V s else 0) = 0 := if_neg (by omega)
      rw [if_pos hht, if_pos hht, e1]; rfl
    · rw [if_neg hht, if_neg hht]
theorem put_ov {f : Nat → Nat} {bad h k m m1 x v : Nat} {V : Nat → Nat} (hx : ∀ t, ad f bad h V m1 t = if t = x then ad f bad h V m x + v else ad f bad h V m t) (t : Nat) : put (ov f bad h k V m) x (ov f bad h k V m x + (v : Int)) t = ov f bad h k V m1 t := by
  unfold put ov
  rw [hx t]
  by_cases ht : t = x
  · subst ht; rw [if_pos rfl, if_pos rfl]; push_cast; omega
  · rw [if_neg ht, if_neg ht]
theorem sc_skip {f : Nat → Nat} {bad g s i : Nat} {P : Nat → Nat} (hi : i < 6) (hb : f i = bad ∨ g ≤ s + f i) (t : Nat) (ht : t < g) : sc f bad P (6 * s + i + 1) t = sc f bad P (6 * s + i) t := by
  rw [sc_at f bad P t hi, if_neg]
  · rfl
  · intro x
    rcases hb with hb | hb
    · exact x.1 hb
    · omega
theorem put_sc {f : Nat → Nat} {bad s i : Nat} {P : Nat → Nat} (hi : i < 6) (hb : f i ≠ bad) (t : Nat) : put (fun t => (sc f bad P (6 * s + i) t : Int)) (s + f i) ((sc f bad P (6 * s + i) (s + f i) : Int) + (P s : Int)) t = (sc f bad P (6 * s + i + 1) t : Int) := by
  rw [sc_at f bad P t hi]
  unfold put
  by_cases ht : t = s + f i
  · subst ht; rw [if_pos rfl, if_pos ⟨hb, rfl⟩, Int.natCast_add]
  · rw [if_neg ht, if_neg (fun x => ht x.2.symm)]; rfl

set_option maxRecDepth 100000 in
set_option maxHeartbeats 32000000 in
theorem specEnds_any (d : Nat → Int) (f : Nat → Nat) (bad h : Nat) (w : World) (hd : faces d f) (h1 : 1 ≤ h) (h10 : h ≤ 10) :
    Calls Try.prog 74 #[dv d, .int .i64 bad, .int .i64 h] w fun e w' => e = .returned (Big41.tv fun t => ((outS f bad h h t : Nat) : Int)) ∧ Below w.heap.size w w' := by
  have Hall := Lib.hid (fun n w (h : n ≤ 16) => l2AllL n w h)
  have Hd := Lib.hid hd; clear hd
  unfold dv
  have hB := na (na (n0 w) (sixO d 22)) (.cells #[.int .i64 0, .int .i64 0, .int .i64 0, .int .i64 0, .int .i64 0, .int .i64 0, .int .i64 0, .int .i64 0, .int .i64 0, .int .i64 0, .int .i64 0, .int .i64 0, .int .i64 0, .int .i64 0, .int .i64 0, .int .i64 0, .int .i64 0, .int .i64 0, .int .i64 0, .int .i64 0, .int .i64 0, .int .i64 0, .int .i64 0, .int .i64 0, .int .i64 0, .int .i64 0, .int .i64 0, .int .i64 0, .int .i64 0, .int .i64 0, .int .i64 0, .int .i64 0, .int .i64 0, .int .i64 0, .int .i64 0, .int .i64 0, .int .i64 0, .int .i64 0, .int .i64 0, .int .i64 0, .int .i64 0] 76)
  have hD := (At.new6 w d 22 rfl).past (.cells #[.int .i64 0, .int .i64 0, .int .i64 0, .int .i64 0, .int .i64 0, .int .i64 0, .int .i64 0, .int .i64 0, .int .i64 0, .int .i64 0, .int .i64 0, .int .i64 0, .int .i64 0, .int .i64 0, .int .i64 0, .int .i64 0, .int .i64 0, .int .i64 0, .int .i64 0, .int .i64 0, .int .i64 0, .int .i64 0, .int .i64 0, .int .i64 0, .int .i64 0, .int .i64 0, .int .i64 0, .int .i64 0, .int .i64 0, .int .i64 0, .int .i64 0, .int .i64 0, .int .i64 0, .int .i64 0, .int .i64 0, .int .i64 0, .int .i64 0, .int .i64 0, .int .i64 0, .int .i64 0, .int .i64 0] 76)
  have hR := Big41.fresh (w.alloc (sixO d 22)) (b := w.heap.size + 1) (by rw [size_alloc])
  go_enter Try.func74, Try.ntmps74
  go_wp2_with fail
  obtain ⟨W, hW⟩ : ∃ W, W = (w.alloc (sixO d 22)).alloc (.cells #[.int .i64 0, .int .i64 0, .int .i64 0, .int .i64 0, .int .i64 0, .int .i64 0, .int .i64 0, .int .i64 0, .int .i64 0, .int .i64 0, .int .i64 0, .int .i64 0, .int .i64 0, .int .i64 0, .int .i64 0, .int .i64 0, .int .i64 0, .int .i64 0, .int .i64 0, .int .i64 0, .int .i64 0, .int .i64 0, .int .i64 0, .int .i64 0, .int .i64 0, .int .i64 0, .int .i64 0, .int .i64 0, .int .i64 0, .int .i64 0, .int .i64 0, .int .i64 0, .int .i64 0, .int .i64 0, .int .i64 0, .int .i64 0, .int .i64 0, .int .i64 0, .int .i64 0, .int .i64 0, .int .i64 0] 76) := ⟨_, rfl⟩
  have hWs : W.heap.size = w.heap.size + 2 := by rw [hW, size_alloc, size_alloc]
  rw [← hW] at hB hD hR ⊢
  clear hW
  have HWs := Lib.hid hWs; clear hWs
  refine wp_region_inc (I := fun L az w' => ∃ (q r : Nat) (u7 u8 u13 u14 u15 : Value), az = ⟨#[.agg #[.int .i64 (d 0), .int .i64 (d 1), .int .i64 (d 2), .int .i64 (d 3), .int .i64 (d 4), .int .i64 (d 5)], .int .i64 bad, .int .i64 h, .pointer (some ⟨w.heap.size, 0, none⟩), undef, undef, .pointer (some ⟨w.heap.size + 1, 0, none⟩), u7, u8, undef, undef, undef, undef, u13, u14, u15, undef, undef, undef, undef, undef, undef, undef, undef, undef, undef, undef, undef, undef, undef, undef, undef, undef, undef, undef, undef, undef, undef, undef, undef, undef, undef, undef, undef, undef, undef, undef, undef, undef, undef, undef, undef, undef, undef, undef, undef, undef, undef, undef, undef, undef, undef, undef, undef, undef, undef, undef, undef, undef, undef, undef, undef, undef, undef, undef, undef, undef, undef, undef, undef, undef, undef, undef, undef, undef, undef, undef, undef, undef, undef, undef, undef, undef, undef, undef, undef, undef, undef, undef, undef, undef, undef, undef, undef, undef, undef], []⟩ ∧ (L 0 = true → u13 = (Big41.tv fun _ => 0)) ∧ (L 1 = true → u14 = .int .i64 h) ∧ (L 2 = true → u15 = .slice (some ⟨r, 0, none⟩) h h ∧ W.heap.size ≤ r ∧ At w' r h (fun _ => 0)) ∧ (L 3 = true → u7 = .pointer (some ⟨q, 0, none⟩) ∧ W.heap.size ≤ q ∧ At w' q 41 (fun _ => 0)) ∧ (L 5 = true → u8 = u15) ∧ (L 2 = true → L 3 = true → q ≠ r) ∧ Below W.heap.size W w' ) (by kernel_rfl) (by kernel_rfl) ?_ ?_ ?_
  · exact ⟨0, 0, _, _, _, _, _, rfl, (fun h => by cases h), (fun h => by cases h), (fun h => by cases h), (fun h => by cases h), (fun h => by cases h), (fun h => by cases h), (Below.refl _ W).drew⟩
  · intro L az wz i hi hL hdep hcl hI
    obtain ⟨q, r, u7, u8, u13, u14, u15, rfl, k0, k1, k2, k3, k5, hne, hB0⟩ := hI
    have hi' : i < 6 := hi
    clear hi
    obtain rfl | rfl | rfl | rfl | rfl | rfl : i = 0 ∨ i = 1 ∨ i = 2 ∨ i = 3 ∨ i = 4 ∨ i = 5 := by omega
    · refine wpOp_want rfl rfl (Big41.ob0 rfl ?_)
      exact ⟨q, r, u7, u8, (Big41.tv fun _ => 0), u14, u15, rfl, fun _ => rfl, k1, k2, k3, k5, hne, hB0⟩
    · refine wpOp_want rfl rfl (Oper.wp_of_quiet (C := fun w' => w' = wz) (K := fun a' => a' = ⟨#[.agg #[.int .i64 (d 0), .int .i64 (d 1), .int .i64 (d 2), .int .i64 (d 3), .int .i64 (d 4), .int .i64 (d 5)], .int .i64 bad, .int .i64 h, .pointer (some ⟨w.heap.size, 0, none⟩), undef, undef, .pointer (some ⟨w.heap.size + 1, 0, none⟩), u7, u8, undef, undef, undef, undef, u13, (.int .i64 h), u15, undef, undef, undef, undef, undef, undef, undef, undef, undef, undef, undef, undef, undef, undef, undef, undef, undef, undef, undef, undef, undef, undef, undef, undef, undef, undef, undef, undef, undef, undef, undef, undef, undef, undef, undef, undef, undef, undef, undef, undef, undef, undef, undef, undef, undef, undef, undef, undef, undef, undef, undef, undef, undef, undef, undef, undef, undef, undef, undef, undef, undef, undef, undef, undef, undef, undef, undef, undef, undef, undef, undef, undef, undef, undef, undef, undef, undef, undef, undef, undef, undef, undef, undef, undef, undef, undef, undef, undef, undef, undef], []⟩) rfl ?_ ?_)
      · intro a' w' hC' hK
        subst hK
        subst hC'
        exact ⟨q, r, u7, u8, u13, (.int .i64 h), u15, rfl, k0, fun _ => rfl, k2, k3, k5, hne, hB0⟩
      · exact BigFrame.quiet_move _ rfl rfl
    · obtain rfl := k1 (hdep 1 (by kernel_rfl))
      have h5 : L 5 = false := by cases h : L 5; rfl; exact absurd (hcl 5 2 h (by kernel_rfl)) (by rw [hL]; decide)
      obtain ⟨w1, hr1, hN1, hb1⟩ := make_ints wz h (by omega)
      refine wpOp_want rfl rfl (Big41.omk _ _ rfl rfl rfl hr1 ?_)
      exact ⟨q, wz.heap.size, u7, u8, u13, (.int .i64 h), _, rfl, k0, fun _ => rfl, fun _ => ⟨rfl, hB0.size, hN1⟩, fun h3 => ⟨(k3 h3).1, (k3 h3).2.1, (k3 h3).2.2.up hb1⟩, fun h6 => absurd (show L 5 = true from h6) (by rw [h5]; decide), fun _ h3 => Nat.ne_of_lt (k3 h3).2.2.lt, hB0.trans (hb1.mono hB0.size)⟩
    · have HB := Lib.hid hB0
      have K2 := Lib.hid k2
      have K5 := Lib.hid k5
      have K0 := Lib.hid k0
      have K1 := Lib.hid k1
      clear k0 k1 k2 k3 k5 hne hB0
      have hNew := Big41.fresh wz (b := wz.heap.size) rfl
      have HN := Lib.hid hNew; clear hNew
      refine wpOp_want rfl rfl ?_
      go_simp
      exact ⟨wz.heap.size, r, (.pointer (some ⟨wz.heap.size, 0, none⟩)), u8, u13, u14, u15, by first | rfl | (simp; done), K0.out, K1.out, fun h2 => ⟨(K2.out h2).1, (K2.out h2).2.1, (K2.out h2).2.2.past _⟩, fun _ => ⟨rfl, HB.out.size, HN.out⟩, K5.out, fun h2 _ => Nat.ne_of_gt (K2.out h2).2.2.lt, HB.out.alloc HB.out.size _⟩
    · obtain ⟨rfl, hq1, hq2⟩ := k3 (hdep 3 (by kernel_rfl))
      obtain rfl := k0 (hdep 0 (by kernel_rfl))
      refine wpOp_want rfl rfl (Big41.ost _ _ rfl rfl rfl hq2 ?_)
      exact ⟨q, r, (.pointer (some ⟨q, 0, none⟩)), u8, (Big41.tv fun _ => 0), u14, u15, rfl, fun _ => rfl, k1, fun h2 => ⟨(k2 h2).1, (k2 h2).2.1, (k2 h2).2.2.keep (Ne.symm (hne h2 (hdep 3 (by kernel_rfl)))) _ _⟩, fun _ => ⟨rfl, hq1, hq2.stored _⟩, k5, hne, hB0.trans (setCells_below hq1 _ _)⟩
    · refine wpOp_want rfl rfl (Oper.wp_of_quiet (C := fun w' => w' = wz) (K := fun a' => a' = ⟨#[.agg #[.int .i64 (d 0), .int .i64 (d 1), .int .i64 (d 2), .int .i64 (d 3), .int .i64 (d 4), .int .i64 (d 5)], .int .i64 bad, .int .i64 h, .pointer (some ⟨w.heap.size, 0, none⟩), undef, undef, .pointer (some ⟨w.heap.size + 1, 0, none⟩), u7, u15, undef, undef, undef, undef, u13, u14, u15, undef, undef, undef, undef, undef, undef, undef, undef, undef, undef, undef, undef, undef, undef, undef, undef, undef, undef, undef, undef, undef, undef, undef, undef, undef, undef, undef, undef, undef, undef, undef, undef, undef, undef, undef, undef, undef, undef, undef, undef, undef, undef, undef, undef, undef, undef, undef, undef, undef, undef, undef, undef, undef, undef, undef, undef, undef, undef, undef, undef, undef, undef, undef, undef, undef, undef, undef, undef, undef, undef, undef, undef, undef, undef, undef, undef, undef, undef, undef, undef, undef, undef, undef, undef, undef, undef, undef, undef, undef, undef], []⟩) rfl ?_ ?_)
      · intro a' w' hC' hK
        subst hK
        subst hC'
        exact ⟨q, r, u7, u15, u13, u14, u15, rfl, k0, k1, k2, k3, fun _ => rfl, hne, hB0⟩
      · exact BigFrame.quiet_assign _ rfl rfl
  · intro L az wz hL hcl hI
    obtain ⟨q, r, u7, u8, u13, u14, u15, rfl, k0, k1, k2, k3, k5, hne, hB0⟩ := hI
    obtain rfl := k0 (hL 0 (by decide))
    obtain rfl := k1 (hL 1 (by decide))
    obtain ⟨rfl, hr1, hN⟩ := k2 (hL 2 (by decide))
    obtain ⟨rfl, hq1, hO⟩ := k3 (hL 3 (by decide))
    obtain rfl := k5 (hL 5 (by decide))
    have hqr := hne (hL 2 (by decide)) (hL 3 (by decide))
    have hB2 := hB.trans (hB0.mono hB.size)
    have hD2 := hD.up hB0
    have hR2 := hR.up hB0
    clear hB hD hR hB0 k0 k1 k2 k3 k5 hne hL hcl
    rw [HWs.out] at hr1 hq1
    have zr := hN.free 0
    have cr := hN.cell 0 (by omega)
    go_wp2_with fail
    have hR0 := hN.set (i := 0) (by omega) 1
    have hN1 : At (wz.setCell ⟨r, 0, none⟩ (.int .i64 1)) r h (fun s => (N f bad h 0 s : Int)) := hR0.congr fun s _ => by
      unfold put
      show _ = ((if s = 0 then 1 else 0 : Nat) : Int)
      by_cases h0 : s = 0
      · subst h0; rfl
      · rw [if_neg h0, if_neg h0]; rfl
    have hO1 := (hO.other (p := r) hqr 0 (.int .i64 1)).congr (g := fun t => ((outS f bad h 0 t : Nat) : Int)) fun t _ => rfl
    have hR1 := hR2.other (p := r) (by omega) 0 (.int .i64 1)
    have hD1 := hD2.other (p := r) (by omega) 0 (.int .i64 1)
    have hB1 := hB2.setCell (p := ⟨r, 0, none⟩) (by show w.heap.size ≤ r; omega) (.int .i64 1)
    clear hN hO hR2 hD2 hB2 hR0 zr cr HWs
    go_loopw [8, 9] (fun nv kv wr => ∃ k n r : Nat, (n ≤ k + 1 ∧ k + 1 ≤ n) ∧ k ≤ h ∧ kv = .int .i64 n ∧ nv = .slice (some ⟨r, 0, none⟩) h h ∧ w.heap.size + 2 ≤ r ∧ q ≠ r ∧ At wr r h (fun s => (N f bad h k s : Int)) ∧ At wr q 41 (fun t => ((outS f bad h k t : Nat) : Int)) ∧ At wr (w.heap.size + 1) 41 (fun _ => 0) ∧ At wr w.heap.size 6 d ∧ Below w.heap.size w wr) (fun _ kv _ => h + 1 - (intOf kv).toNat)
    case atStart => exact ⟨0, 1, r, by omega, by omega, rfl, rfl, hr1, hqr, hN1, hO1, hR1, hD1, hB1⟩
    case round =>
      clear hN1 hO1 hR1 hD1 hB1 hr1 hqr
      obtain ⟨k, n, r, ⟨hn1, hn2⟩, hk, rfl, rfl, hr1, hqr, hN, hO, hR, hD, hB⟩ := hrel
      by_cases hlt : k < h
      · have hit : decide ((n : Int) ≤ (h : Int)) = true := decide_eq_true (by omega)
        have hitN : decide (n ≤ h) = true := decide_eq_true (by omega)
        obtain ⟨w3, hr3, hX3, hb3⟩ := make_ints wr h (by omega)
        have hN3 := hN.up hb3
        have hO3 := (hO.up hb3).congr (g := ov f bad h k (fun s => 6 ^ (h - 1 - k) * N f bad h k s) 0) fun t _ => (ov_zero f bad h k _ t).symm
        have hR3 := hR.up hb3
        have hD3 := hD.up hb3
        have hB3 := nx hB hb3
        have hrx := hN.lt
        have hqx := hO.lt
        have hNl := fun s (hs : s < h) => Nat.le_trans (N_le f bad h1 hs k) (pow_ten (show k ≤ 10 by omega)).1
        have hVl := fun s (hs : s < h) => HoldM.part_le (d := f) (bad := bad) h1 h10 hlt hs
        have hXl := fun m t (hm : m ≤ 6 * h) => Nat.le_trans (sc_le (d := f) (bad := bad) (u := N f bad h k) hNl t m hm) (Nat.mul_le_mul_right _ (show m ≤ 60 by omega))
        have hAl := fun m t (hm : m ≤ 6 * h) => Nat.le_trans (ad_le (d := f) (bad := bad) (h := h) (u := fun s => 6 ^ (h - 1 - k) * N f bad h k s) hVl hm t) (Nat.mul_le_mul_right _ (show m ≤ 60 by omega))
        have hOl := fun t => Nat.le_trans (outS_le (d := f) (bad := bad) h1 h10 t k (by omega)) (Nat.mul_le_mul_right _ (show k ≤ 10 by omega))
        have HNl := Lib.hid hNl
        have HXl := Lib.hid hXl
        have HAl := Lib.hid hAl
        have HOl := Lib.hid hOl
        have HVl := Lib.hid hVl
        have hnx : Hid (∀ t, N f bad h (k + 1) t = sc f bad (N f bad h k) (6 * h) t) := fun _ => rfl
        have hon := Lib.hid (ov_next f bad h k)
        obtain ⟨e, he⟩ : ∃ e, e = h - 1 - k := ⟨_, rfl⟩
        rw [← he] at hO3 HAl HVl hon
        have Hsub := Lib.hid (wsub (a := h) (b := n) (p := e) (by omega) (by omega))
        have Hall1 := Lib.hid (fun w => Hall.out e w (by omega))
        rw [show all6 e = 6 ^ e from rfl] at Hall1
        have Hpd : Hid (∀ s, N f bad h k s * 6 ^ e = (fun s => 6 ^ e * N f bad h k s) s) := fun s => Nat.mul_comm _ _
        have HV : Hid (∀ s, s < h → (fun s => 6 ^ e * N f bad h k s) s ≤ 10077696) := fun s hs => HVl.out s hs
        clear hNl hVl hXl hAl hOl he HVl
        obtain ⟨V, hV⟩ : ∃ V, V = fun s => 6 ^ e * N f bad h k s := ⟨_, rfl⟩
        rw [← hV] at hO3 HAl hon Hpd HV
        generalize N f bad h k = P at *
        generalize 6 ^ e = W6 at *
        clear hV
        generalize hx : wr.heap.size = x at *
        clear hx hN hO hR hD hB hb3
        go_wp2_with fail
        clear hr3
        have hX4 := hX3.congr (g := fun t => (sc f bad P 0 t : Int)) fun t _ => rfl
        clear hX3
        go_loopw [11] (fun sv wr => ∃ s : Nat, s ≤ h ∧ sv = .int .i64 s ∧ At wr x h (fun t => (sc f bad P (6 * s) t : Int)) ∧ At wr q 41 (ov f bad h k V (6 * s)) ∧ At wr r h (fun s => (P s : Int)) ∧ At wr (w.heap.size + 1) 41 (fun _ => 0) ∧ At wr w.heap.size 6 d ∧ Below w.heap.size w wr) (fun sv _ => h - (intOf sv).toNat)
        case atStart => exact ⟨0, by omega, rfl, hX4, hO3, hN3, hR3, hD3, hB3⟩
        case round =>
          clear hX4 hO3 hN3 hR3 hD3 hB3
          obtain ⟨s, hs, rfl, hX, hO, hN, hR, hD, hB⟩ := hrel
          by_cases hslt : s < h
          · have hits : decide ((s : Int) < (h : Int)) = true := decide_eq_true (by omega)
            have hPs := HNl.out s hslt
            have hVs := HV.out s hslt
            have hpv := Hpd.out s
            have hmul := wmul hpv (by omega)
            have Hmul := Lib.hid hmul
            clear hpv hmul
            go_wp2_with fail
            go_loopw [12] (fun iv wr => ∃ i : Nat, i ≤ 6 ∧ iv = .int .i64 i ∧ At wr x h (fun t => (sc f bad P (6 * s + i) t : Int)) ∧ At wr q 41 (ov f bad h k V (6 * s + i)) ∧ At wr r h (fun s => (P s : Int)) ∧ At wr (w.heap.size + 1) 41 (fun _ => 0) ∧ At wr w.heap.size 6 d ∧ Below w.heap.size w wr) (fun iv _ => 6 - (intOf iv).toNat)
            case atStart => exact ⟨0, by omega, rfl, hX, hO, hN, hR, hD, hB⟩
            case round =>
              clear hX hO hN hR hD hB
              obtain ⟨i, hi, rfl, hX, hO, hN, hR, hD, hB⟩ := hrel
              by_cases hi6 : i < 6
              · obtain ⟨hdi, hf1, hf30⟩ := Hd.out i hi6
                have hit6 : decide ((i : Int) < 6) = true := decide_eq_true (by omega)
                have hm1 : 6 * s + i ≤ 6 * h := by omega
                have ci := hD.cell i hi6
                by_cases hb : f i = bad
                · have hdb : (d i == (bad : Int)) = true := by simp; omega
                  have hst := Lib.hid (fun t => put_ov (k := k) (fun t => ad_bad (h := h) (s := s) (V := V) hi6 hb t) t)
                  have hsk := Lib.hid (fun t ht => sc_skip (g := h) (s := s) (P := P) hi6 (.inl hb) t ht)
                  go_wp2_with fail
                  have c0 := hO.drew.cell 0 (by omega)
                  have z0 := hO.drew.free 0
                  have cs := hN.drew.cell s hslt
                  have hzv : ov f bad h k V (6 * s + i) 0 = ((outS f bad h k 0 + ad f bad h V (6 * s + i) 0 : Nat) : Int) := rfl
                  have hz1 := HOl.out 0
                  have hz2 := HAl.out (6 * s + i) 0 hm1
                  rw [hzv] at c0
                  clear hzv
                  obtain ⟨z, hz⟩ : ∃ z, z = outS f bad h k 0 + ad f bad h V (6 * s + i) 0 := ⟨_, rfl⟩
                  have hzl : z ≤ 6651279360 := by omega
                  rw [← hz] at c0
                  have Hz := Lib.hid hz
                  clear hz hz1 hz2
                  have hadd := wadd (a := z) (b := V s) rfl (by omega)
                  have HoD : Hid (Calls Try.prog 56 #[.int .i64 (e : Nat)] wr.drew fun e w' => e = .returned (.int .i64 (W6 : Nat)) ∧ w' = wr.drew) := Hall1.out wr.drew
                  obtain ⟨m1, m2⟩ := Hmul.out
                  obtain ⟨s1, s2⟩ := Hsub.out
                  obtain ⟨a1, a2⟩ := hadd
                  clear ci hdb
                  have hX' := hX.drew
                  have hO' := hO.drew
                  have hN' := hN.drew
                  have hR' := hR.drew
                  have hD' := hD.drew
                  have hB' := hB.drew
                  clear hX hO hN hR hD hB
                  refine wp_region_still_tail 13 (by kernel_rfl) (by kernel_rfl) ?_
                  simp only [List.take_succ_cons, List.take_zero, List.drop_succ_cons, List.drop_zero]
                  repeat still_step
                  still_call HoD.out
                  repeat still_step
                  refine wpStill_nil ?_
                  change wpList _ _ _ _ _ wr.drew
                  generalize wr.drew = W5 at *
                  go_wp2_with fail
                  have hset := (hO'.set (i := 0) (by omega) ((z : Int) + (V s : Int))).congr (g := ov f bad h k V (6 * s + (i + 1))) fun t _ => by
                    have hh := hst.out t
                    rw [show ov f bad h k V (6 * s + i) 0 = (z : Int) from by rw [Hz.out]; rfl] at hh
                    exact hh
                  go_roundw
                  case rel => exact ⟨i + 1, by omega, by go_num, (hX'.other (by omega) _ _).congr fun t ht => by rw [← hsk.out t ht]; rfl, hset, hN'.other (by omega) _ _, hR'.other (by omega) _ _, hD'.other (by omega) _ _, hB'.setCell (p := ⟨q, 0, none⟩) (by show w.heap.size ≤ q; omega) _⟩
                  case measure => simp [intOf]; omega
                · have hdb : (d i == (bad : Int)) = false := by simp; omega
                  have hw : wrap64 ((s : Int) + d i) = (s : Int) + d i := by unfold wrap64; omega
                  have hwi : IntKind.i64.wrap ((s : Int) + d i) = (s : Int) + d i := by
                    have e : (s : Int) + d i = ((s + f i : Nat) : Int) := by omega
                    rw [e]
                    exact (wone (by omega)).1
                  have hj : ((s : Int) + d i).toNat = s + f i := by omega
                  have hj0 : 0 ≤ (s : Int) + d i := by omega
                  by_cases hge : h ≤ s + f i
                  · have hdc : decide ((h : Int) ≤ (s : Int) + d i) = true := decide_eq_true (by omega)
                    have hi6i : (i : Int) < 6 := by omega
                    have hshi : (s : Int) < (h : Int) := by omega
                    have hjlt : (s : Int) + d i < 41 := by omega
                    have hxlt : s + f i < 41 := by omega
                    have hst := Lib.hid (fun t => put_ov (k := k) (fun t => ad_out (V := V) hi6 h1 hb hge t) t)
                    have hsk := Lib.hid (fun t ht => sc_skip (bad := bad) (g := h) (s := s) (P := P) hi6 (.inr hge) t ht)
                    go_wp2_with fail
                    obtain ⟨y, hy⟩ : ∃ y, y = s + f i := ⟨_, rfl⟩
                    have hwy := (wadd (a := s) (b := f i) (p := y) hy.symm (by omega)).1
                    have hy0 : (0 : Int) ≤ (y : Int) := by omega
                    have hy41 : (y : Int) < 41 := by omega
                    rw [← hy] at hst hxlt
                    have c0 := hO.drew.cell y hxlt
                    have z0 := hO.drew.free y
                    have cs := hN.drew.cell s hslt
                    have cd := hD.drew.cell i hi6
                    have hzv : ov f bad h k V (6 * s + i) y = ((outS f bad h k y + ad f bad h V (6 * s + i) y : Nat) : Int) := rfl
                    have hz1 := HOl.out y
                    have hz2 := HAl.out (6 * s + i) y hm1
                    rw [hzv] at c0
                    clear hzv
                    obtain ⟨z, hz⟩ : ∃ z, z = outS f bad h k y + ad f bad h V (6 * s + i) y := ⟨_, rfl⟩
                    have hzl : z ≤ 6651279360 := by omega
                    rw [← hz] at c0
                    have Hz := Lib.hid hz
                    have Hy := Lib.hid hy
                    clear hz hz1 hz2 hw hwi hj hj0 hjlt hy
                    have hadd := wadd (a := z) (b := V s) rfl (by omega)
                    have HoD : Hid (Calls Try.prog 56 #[.int .i64 (e : Nat)] wr.drew fun e w' => e = .returned (.int .i64 (W6 : Nat)) ∧ w' = wr.drew) := Hall1.out wr.drew
                    obtain ⟨m1, m2⟩ := Hmul.out
                    obtain ⟨s1, s2⟩ := Hsub.out
                    obtain ⟨a1, a2⟩ := hadd
                    clear ci hdb hdc
                    have hX' := hX.drew
                    have hO' := hO.drew
                    have hN' := hN.drew
                    have hR' := hR.drew
                    have hD' := hD.drew
                    have hB' := hB.drew
                    clear hX hO hN hR hD hB
                    refine wp_region_still_tail 23 (by kernel_rfl) (by kernel_rfl) ?_
                    simp only [List.take_succ_cons, List.take_zero, List.drop_succ_cons, List.drop_zero]
                    repeat still_step
                    still_call HoD.out
                    repeat still_step
                    refine wpStill_nil ?_
                    change wpList _ _ _ _ _ wr.drew
                    generalize wr.drew = W5 at *
                    go_wp2_with fail
                    have hset := (hO'.set (i := y) hxlt ((z : Int) + (V s : Int))).congr (g := ov f bad h k V (6 * s + (i + 1))) fun t _ => by
                      have hh := hst.out t
                      rw [show ov f bad h k V (6 * s + i) y = (z : Int) from by rw [Hz.out]; rfl] at hh
                      exact hh
                    go_roundw
                    case rel => exact ⟨i + 1, by omega, by go_num, (hX'.other (by omega) _ _).congr fun t ht => by rw [← hsk.out t ht]; rfl, hset, hN'.other (by omega) _ _, hR'.other (by omega) _ _, hD'.other (by omega) _ _, hB'.setCell (p := ⟨q, y, none⟩) (by show w.heap.size ≤ q; omega) _⟩
                    case measure => simp [intOf]; omega
                  · have hdc : decide ((h : Int) ≤ (s : Int) + d i) = false := decide_eq_false (by omega)
                    have hjlt : (s : Int) + d i < (h : Int) := by omega
                    have hsf : s + f i < h := by omega
                    have hst := Lib.hid (fun t => put_sc (s := s) (P := P) hi6 hb t)
                    have hsk := Lib.hid (fun t => ad_in (h := h) (s := s) (V := V) hi6 hb hsf t)
                    have ck := hX.cell (s + f i) hsf
                    have zk := hX.free (s + f i)
                    have cs := hN.cell s hslt
                    have hxl := HXl.out (6 * s + i) (s + f i) hm1
                    go_wp2_with fail
                    go_region
                    all_goals
                      go_wp2_with fail
                      go_roundw
                      case rel => exact ⟨i + 1, by omega, by go_num, ((hX.set hsf _).congr fun t _ => hst.out t).drew, ((hO.other (by omega) _ _).congr fun t _ => by unfold ov; rw [← hsk.out t]; rfl).drew, (hN.other (by omega) _ _).drew, (hR.other (by omega) _ _).drew, (hD.other (by omega) _ _).drew, (hB.setCell (p := ⟨x, s + f i, none⟩) (by show w.heap.size ≤ x; omega) _).drew⟩
                      case measure => simp [intOf]; omega
              · obtain rfl : i = 6 := by omega
                have hit6 : decide ((6 : Int) < 6) = false := by decide
                go_wp2_with fail
                go_roundw
                case rel => exact ⟨s + 1, by omega, by go_num, hX, hO, hN, hR, hD, hB⟩
                case measure => simp [intOf]; omega
          · obtain rfl : s = h := by omega
            have hits : decide ((s : Int) < (s : Int)) = false := decide_eq_false (by omega)
            go_wp2_with fail
            go_roundw
            case rel => exact ⟨k + 1, n + 1, x, by omega, by omega, by go_num, rfl, by omega, by omega, hX.congr fun t _ => by rw [hnx.out], hO.congr fun t _ => hon.out t, hR, hD, hB⟩
            case measure => simp [intOf]; omega
      · obtain rfl : k = h := by omega
        have hit : decide ((n : Int) ≤ (k : Int)) = false := decide_eq_false (by omega)
        obtain ⟨w4, hst, hA4, hB4, _⟩ := Big41.store_ex hR (fun t => ((outS f bad k k t : Nat) : Int))
        have hbl4 := hB.trans (hB4 w.heap.size (by omega))
        go_wp2_with (refine Big41.ld rfl _ rfl rfl hO ?_)
        exact ret_cell (b := w.heap.size + 1) (n := 41) (f := fun t => ((outS f bad k k t : Nat) : Int)) Try.results74 rfl Try.underlying76 Big41.size_run hA4 rfl ⟨rfl, hbl4⟩


end HoldS
end Go.Proofs.Ytcffglnfdnanhaa
