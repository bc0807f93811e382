/-
  Turns that are played, by the program.
-/
import Derived.Test.YtcffglnfdnanhaaRows
import Derived.Test.YtcffglnfdnanhaaArr
import Derived.Test.YtcffglnfdnanhaaAnyR
import Derived.Test.YtcffglnfdnanhaaDieW
import Derived.Test.YtcffglnfdnanhaaSortW
import Derived.Test.YtcffglnfdnanhaaFracW
import Derived.Test.YtcffglnfdnanhaaFracL
import Derived.Test.YtcffglnfdnanhaaCutW
import Derived.Test.YtcffglnfdnanhaaAll6
import Derived.Test.YtcffglnfdnanhaaAllL
import Derived.Test.YtcffglnfdnanhaaOwnL
import Derived.Test.YtcffglnfdnanhaaFracM
import Derived.Test.YtcffglnfdnanhaaStopM
import Derived.Test.YtcffglnfdnanhaaRunM
import Derived.Test.YtcffglnfdnanhaaRunI
import Derived.Test.YtcffglnfdnanhaaRunS
import Derived.Test.YtcffglnfdnanhaaRunW
import Derived.Test.YtcffglnfdnanhaaHoldM
import Derived.Test.YtcffglnfdnanhaaBig40
import Derived.Test.YtcffglnfdnanhaaBig41
import Derived.Test.YtcffglnfdnanhaaHoldI
import Derived.Test.YtcffglnfdnanhaaHoldS
import Derived.Test.YtcffglnfdnanhaaHoldW
import Derived.Test.YtcffglnfdnanhaaRunW
import Derived.Test.YtcffglnfdnanhaaOpenI
import Derived.Test.YtcffglnfdnanhaaOpenD
import Derived.Test.YtcffglnfdnanhaaPlayW
import Derived.Test.YtcffglnfdnanhaaOpenD
import Derived.WalkKit
import Derived.WalkMore
import Derived.ScopeJumps
import Derived.WalkLawsBesides
import Derived.WalkSpells
import Derived.ProofKit
import Derived.OpenShut
import Derived.Deep.RegionWith
import Derived.Deep.QuietTactic
import Derived.BigQuiet
namespace Go.Proofs.Ytcffglnfdnanhaa
open Go.ChangeShapes Go.WideShapes Go.ChangeAt Go.RowKit
open Go.ChangeMaps (open_string shut_string)

namespace PlayI
open Dice Arr DieW SortW FracW CutW All6 AllL OwnL FracM StopM RunM RunI RunS RunW HoldM HoldI HoldS HoldW OpenG OpenD PlayW


set_option maxRecDepth 100000 in
set_option maxHeartbeats 16000000 in
theorem implPlay_any (d : Nat → Int) (bad h : Int) (g n c : Nat) (p : Nat → Int) (w : World) (hA : At w g n p) (hn : n ≤ 1048576) :
    Calls Try.prog 48 #[dv d, .int .i64 bad, .int .i64 h, .slice (some ⟨g, 0, none⟩) n c] w fun e w' => e = .returned (ptv (outP d bad h p n)) ∧ Below w.heap.size w w' := by
  have hc := fun w => canTurn_any d bad h w
  unfold dv at hc
  have Hc := Lib.hid hc; clear hc
  unfold dv
  have hB := na (n0 w) (sixO d 22)
  have hD := At.new6 w d 22 rfl
  have hA0 := hA.past (sixO d 22)
  obtain ⟨e0, e1, e2, e3, e4, e5⟩ := hD.six
  unfold outP
  cases hok : okT d bad h
  · rw [hok] at Hc
    clear hok
    go_enter Try.func48, Try.ntmps48
    go_wp2_with fail
    refine wp_scope_jumps 0 (fun _ _ => False) (fun _ _ => 0) rfl ?_ (fun a w h => h.elim)
    go_wp2_with fail
    refine (Hc.out _).mono ?_
    rintro e w1 ⟨rfl, hb1⟩
    clear e0 e1 e2 e3 e4 e5
    go_wp2_with fail
    simp only [Exit.jump]
    refine bodyPost_ret (results_tmp4 rfl _ _ _) rfl ?_
    exact ⟨rfl, nx hB hb1⟩
  · rw [hok] at Hc
    obtain ⟨hr, ⟨_, _⟩, _, hh10⟩ := of_okT hok
    have Hd := Lib.hid (faces_of hr)
    clear hok hr
    rw [if_pos rfl]
    obtain ⟨r, hr⟩ : ∃ r, r = pt d bad h p n n 0 := ⟨_, rfl⟩
    rw [← hr]
    have hrr : Hid (r = pt d bad h p n (n - 0) 0) := hr
    clear hr
    go_enter Try.func48, Try.ntmps48
    go_wp2_with fail
    refine wp_scope_jumps 0 (fun a' w' => ∃ (i : Nat) (t : Int) (u14 u15 u21 u22 u23 u24 u25 u26 u27 u28 u29 u30 u31 u32 u33 u34 u35 u36 u37 u38 u39 u40 u41 u42 u43 u44 u45 u46 u47 u48 u49 u50 u51 : Value), a' = { tmps := #[.agg #[.int .i64 (d 0), .int .i64 (d 1), .int .i64 (d 2), .int .i64 (d 3), .int .i64 (d 4), .int .i64 (d 5)], .int .i64 bad, .int .i64 h, .slice (some ⟨g, 0, none⟩) n c, .pointer (some ⟨w.heap.size, 0, none⟩), undef, undef, undef, .int .i64 0, .int .i64 0, .bool false, .bool false, .int .i64 t, .int .i64 i, u14, u15, .agg #[.int .i64 (d 0), .int .i64 (d 1), .int .i64 (d 2), .int .i64 (d 3), .int .i64 (d 4), .int .i64 (d 5)], .int .i64 bad, .int .i64 h, .bool true, .bool false, u21, u22, u23, u24, u25, u26, u27, u28, u29, u30, u31, u32, u33, u34, u35, u36, u37, u38, u39, u40, u41, u42, u43, u44, u45, u46, u47, u48, u49, u50, u51], defers := [] } ∧ i ≤ n ∧ 0 ≤ t ∧ t ≤ 10 ∧ Hid (r = pt d bad h p n (n - i) t) ∧ At w' g n p ∧ At w' w.heap.size 6 d ∧ Below w.heap.size w w') (fun a' _ => n - (intOf (a'.tmps.getD 13 undef)).toNat) rfl ?_ ?_
    · go_wp2_with fail
      refine (Hc.out _).mono ?_
      rintro e w1 ⟨rfl, hb1⟩
      have hB1 := nx hB hb1
      have hD1 := hD.up hb1
      have hA1 := hA0.up hb1
      clear e0 e1 e2 e3 e4 e5 hB hD hA0 hA hb1
      go_wp2_with fail
      go_step3
      by_cases hlt : 0 < n
      · have hne : ((0 : Int) == (n : Int)) = false := by simp; omega
        have ci := hA1.drew.cell 0 hlt
        have hs := hrr.out
        rw [pt_step d bad h p 0 hlt] at hs
        have Hs := Lib.hid hs
        clear hs
        have hfa := fun w => faceAt_any d (p 0) w
        unfold dv at hfa
        obtain ⟨e0, e1, e2, e3, e4, e5⟩ := hD1.drew.six
        have HB1 := Lib.hid hB1.drew
        have HA1 := Lib.hid hA1.drew
        have HD1 := Lib.hid hD1.drew
        have hii : (0 : Int) ≤ (0 : Int) := by omega
        have hiin : (0 : Int) < (n : Int) := by omega
        clear hB1 hA1 hD1 hrr
        by_cases hx : p 0 < 0 ∨ 5 < p 0
        · have HE := Lib.hid (Hs.out.trans (if_pos hx))
          rw [if_pos hx, decide_eq_true hx] at hfa
          have Hfa := Lib.hid hfa
          clear hfa Hs hx
          generalize p 0 = x at *
          go_wp2_with fail
          go_region_with (go_at_call 80; refine (Hfa.out _).mono ?_; rintro e w5 ⟨rfl, hb5⟩)
          all_goals
            go_wp2_with fail
            simp only [Exit.jump]
            refine bodyPost_ret (results_tmp4 rfl _ _ _) rfl ?_
            exact ⟨by rw [HE.out]; rfl, nx HB1.out hb5⟩
        · have Hs2 := Lib.hid (Hs.out.trans (if_neg hx))
          rw [if_neg hx, decide_eq_false hx] at hfa
          have Hfa := Lib.hid hfa
          obtain ⟨hdx, hf1, hf30⟩ := Hd.out (p 0).toNat (by omega)
          clear hfa Hs hx
          generalize d (p 0).toNat = y at *
          generalize p 0 = x at *
          have hy30 : 1 ≤ y ∧ y ≤ 30 := by omega
          by_cases hb : y = bad
          · have hbe : (y == bad) = true := by simp [hb]
            have HE := Lib.hid (Hs2.out.trans (if_pos hb))
            clear Hs2 hb hdx
            go_wp2_with fail
            go_region_with (go_at_call 80; refine (Hfa.out _).mono ?_; rintro e w5 ⟨rfl, hb5⟩)
            all_goals
              go_wp2_with fail
              simp only [Exit.jump]
              refine bodyPost_ret (results_tmp4 rfl _ _ _) rfl ?_
              exact ⟨by rw [HE.out]; rfl, nx HB1.out hb5⟩
          · have hbe : (y == bad) = false := by simp [hb]
            have Hs3 := Lib.hid (Hs2.out.trans (if_neg hb))
            clear Hs2 hb hdx
            have hw : wrap64 (y) = y := by unfold wrap64; omega
            by_cases hge : h ≤ 0 + y
            · have hgd : decide (y < h) = false := decide_eq_false (by omega)
              have HE := Lib.hid (Hs3.out.trans (if_pos hge))
              clear Hs3 hge
              go_wp2_with fail
              go_region_with (go_at_call 80; refine (Hfa.out _).mono ?_; rintro e w5 ⟨rfl, hb5⟩)
              all_goals
                go_wp2_with fail
                simp only [Exit.jump]
                refine bodyPost_ret (results_tmp4 rfl _ _ _) rfl ?_
                exact ⟨by rw [HE.out]; first | rfl | simp [ptv], nx HB1.out hb5⟩
            · have hgd : decide (y < h) = true := decide_eq_true (by omega)
              have HE := Lib.hid (Hs3.out.trans (if_neg hge))
              clear Hs3
              go_wp2_with fail
              go_region_with (go_at_call 80; refine (Hfa.out _).mono ?_; rintro e w5 ⟨rfl, hb5⟩)
              all_goals
                go_wp2_with fail
                go_step3
                exact ⟨rfl, 0 + 1, y, _, _, _, _, _, _, _, _, _, _, _, _, _, _, _, _, _, _, _, _, _, _, _, _, _, _, _, _, _, _, _, _, _, rfl, by omega, by omega, by omega, (by have hh := HE.out; have h2 : r = pt d bad h p n (n - (0 + 1)) y := (by simpa using hh); exact h2), HA1.out.up hb5, HD1.out.up hb5, nx HB1.out hb5⟩
      · have hn0 : n = 0 := by omega
        have hne : ((0 : Int) == (n : Int)) = true := by simp; omega
        have hs := hrr.out
        have HE : Hid (r = (0, 0, false, true)) := by
          have h : r = pt d bad h p n (n - 0) 0 := hs
          rw [hn0] at h
          exact h
        clear hs hn0
        go_wp2_with fail
        simp only [Exit.jump]
        refine bodyPost_ret (results_tmp4 rfl _ _ _) rfl ?_
        exact ⟨by rw [HE.out]; rfl, hB1⟩
    · clear hB hD hA0 hA e0 e1 e2 e3 e4 e5 hrr
      rintro a' w1 ⟨i, t, u14, u15, u21, u22, u23, u24, u25, u26, u27, u28, u29, u30, u31, u32, u33, u34, u35, u36, u37, u38, u39, u40, u41, u42, u43, u44, u45, u46, u47, u48, u49, u50, u51, rfl, hi, ht0, ht1, hrr, hA1, hD1, hB1⟩
      by_cases hlt : i < n
      · have hne : ((i : Int) == (n : Int)) = false := by simp; omega
        have ci := hA1.drew.cell i hlt
        have hs := hrr.out
        rw [pt_step d bad h p t hlt] at hs
        have Hs := Lib.hid hs
        clear hs
        have hfa := fun w => faceAt_any d (p i) w
        unfold dv at hfa
        obtain ⟨e0, e1, e2, e3, e4, e5⟩ := hD1.drew.six
        have HB1 := Lib.hid hB1.drew
        have HA1 := Lib.hid hA1.drew
        have HD1 := Lib.hid hD1.drew
        have hii : (0 : Int) ≤ (i : Int) := by omega
        have hiin : (i : Int) < (n : Int) := by omega
        clear hB1 hA1 hD1 hrr
        by_cases hx : p i < 0 ∨ 5 < p i
        · have HE := Lib.hid (Hs.out.trans (if_pos hx))
          rw [if_pos hx, decide_eq_true hx] at hfa
          have Hfa := Lib.hid hfa
          clear hfa Hs hx
          generalize p i = x at *
          go_wp2_with fail
          go_region_with (go_at_call 80; refine (Hfa.out _).mono ?_; rintro e w5 ⟨rfl, hb5⟩)
          all_goals
            go_wp2_with fail
            simp only [Exit.jump]
            refine bodyPost_ret (results_tmp4 rfl _ _ _) rfl ?_
            exact ⟨by rw [HE.out]; rfl, nx HB1.out hb5⟩
        · have Hs2 := Lib.hid (Hs.out.trans (if_neg hx))
          rw [if_neg hx, decide_eq_false hx] at hfa
          have Hfa := Lib.hid hfa
          obtain ⟨hdx, hf1, hf30⟩ := Hd.out (p i).toNat (by omega)
          clear hfa Hs hx
          generalize d (p i).toNat = y at *
          generalize p i = x at *
          have hy30 : 1 ≤ y ∧ y ≤ 30 := by omega
          by_cases hb : y = bad
          · have hbe : (y == bad) = true := by simp [hb]
            have HE := Lib.hid (Hs2.out.trans (if_pos hb))
            clear Hs2 hb hdx
            go_wp2_with fail
            go_region_with (go_at_call 80; refine (Hfa.out _).mono ?_; rintro e w5 ⟨rfl, hb5⟩)
            all_goals
              go_wp2_with fail
              simp only [Exit.jump]
              refine bodyPost_ret (results_tmp4 rfl _ _ _) rfl ?_
              exact ⟨by rw [HE.out]; rfl, nx HB1.out hb5⟩
          · have hbe : (y == bad) = false := by simp [hb]
            have Hs3 := Lib.hid (Hs2.out.trans (if_neg hb))
            clear Hs2 hb hdx
            have hw : wrap64 (t + y) = t + y := by unfold wrap64; omega
            by_cases hge : h ≤ t + y
            · have hgd : decide (t + y < h) = false := decide_eq_false (by omega)
              have HE := Lib.hid (Hs3.out.trans (if_pos hge))
              clear Hs3 hge
              go_wp2_with fail
              go_region_with (go_at_call 80; refine (Hfa.out _).mono ?_; rintro e w5 ⟨rfl, hb5⟩)
              all_goals
                go_wp2_with fail
                simp only [Exit.jump]
                refine bodyPost_ret (results_tmp4 rfl _ _ _) rfl ?_
                exact ⟨by rw [HE.out]; first | rfl | simp [ptv], nx HB1.out hb5⟩
            · have hgd : decide (t + y < h) = true := decide_eq_true (by omega)
              have HE := Lib.hid (Hs3.out.trans (if_neg hge))
              clear Hs3
              go_wp2_with fail
              go_region_with (go_at_call 80; refine (Hfa.out _).mono ?_; rintro e w5 ⟨rfl, hb5⟩)
              all_goals
                go_wp2_with fail
                go_step3
                exact ⟨rfl, ⟨i + 1, t + y, _, _, _, _, _, _, _, _, _, _, _, _, _, _, _, _, _, _, _, _, _, _, _, _, _, _, _, _, _, _, _, _, _, rfl, by omega, by omega, by omega, HE, HA1.out.up hb5, HD1.out.up hb5, nx HB1.out hb5⟩, by simp [intOf]; omega⟩
      · obtain rfl : i = n := by omega
        have hne : ((i : Int) == (i : Int)) = true := by simp
        have hs := hrr.out
        rw [pt_end] at hs
        have HE := Lib.hid hs
        clear hs
        go_wp2_with fail
        simp only [Exit.jump]
        refine bodyPost_ret (results_tmp4 rfl _ _ _) rfl ?_
        exact ⟨by rw [HE.out]; rfl, hB1⟩


end PlayI
end Go.Proofs.Ytcffglnfdnanhaa
