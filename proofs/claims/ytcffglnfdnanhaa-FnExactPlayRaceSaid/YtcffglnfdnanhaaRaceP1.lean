/-
  Races that are played, by the program.
-/
import Derived.Test.YtcffglnfdnanhaaRows
import Derived.Test.YtcffglnfdnanhaaArr
import Derived.Test.YtcffglnfdnanhaaAnyR
import Derived.Test.YtcffglnfdnanhaaDieW
import Derived.Test.YtcffglnfdnanhaaSortW
import Derived.Test.YtcffglnfdnanhaaFracW
import Derived.Test.YtcffglnfdnanhaaFracL
import Derived.Test.YtcffglnfdnanhaaCutW
import Derived.Test.YtcffglnfdnanhaaAll6
import Derived.Test.YtcffglnfdnanhaaAllL
import Derived.Test.YtcffglnfdnanhaaOwnL
import Derived.Test.YtcffglnfdnanhaaFracM
import Derived.Test.YtcffglnfdnanhaaStopM
import Derived.Test.YtcffglnfdnanhaaRunM
import Derived.Test.YtcffglnfdnanhaaRunI
import Derived.Test.YtcffglnfdnanhaaRunS
import Derived.Test.YtcffglnfdnanhaaRunW
import Derived.Test.YtcffglnfdnanhaaRunW
import Derived.Test.YtcffglnfdnanhaaOpenI
import Derived.Test.YtcffglnfdnanhaaOpenD
import Derived.Test.YtcffglnfdnanhaaPlayW
import Derived.Test.YtcffglnfdnanhaaRaceP0
import Derived.Test.YtcffglnfdnanhaaOpenD
import Derived.WalkKit
import Derived.Deep.LoopGhost
import Derived.OwnWalk
import Derived.WalkLawsBesides
import Derived.WalkSpells
import Derived.ProofKit
import Derived.OpenShut
import Derived.Deep.RegionWith
import Derived.Deep.QuietTactic
import Derived.BigQuiet
namespace Go.Proofs.Ytcffglnfdnanhaa
open Go.ChangeShapes Go.WideShapes Go.ChangeAt Go.RowKit
open Go.ChangeMaps (open_string shut_string)

namespace RaceP1
open Dice Arr DieW SortW FracW CutW All6 AllL OwnL FracM StopM RunM RunI RunS RunW OpenG OpenD PlayW RaceP0

theorem ix0 (a b : Nat → Int) (w : World) : (Instr.index 86 (.agg #[.int .i64 (a 0), .int .i64 (a 1), .int .i64 (a 2), .int .i64 (a 3), .int .i64 (a 4), .int .i64 (a 5), .int .i64 (b 0), .int .i64 (b 1), .int .i64 (b 2), .int .i64 (b 3), .int .i64 (b 4), .int .i64 (b 5)]) (.int .i64 0)).run Try.prog w = .ok (.agg #[.int .i64 (a 0), .int .i64 (a 1), .int .i64 (a 2), .int .i64 (a 3), .int .i64 (a 4), .int .i64 (a 5)]) w := by kernel_rfl
theorem ix1 (a b : Nat → Int) (w : World) : (Instr.index 86 (.agg #[.int .i64 (a 0), .int .i64 (a 1), .int .i64 (a 2), .int .i64 (a 3), .int .i64 (a 4), .int .i64 (a 5), .int .i64 (b 0), .int .i64 (b 1), .int .i64 (b 2), .int .i64 (b 3), .int .i64 (b 4), .int .i64 (b 5)]) (.int .i64 1)).run Try.prog w = .ok (.agg #[.int .i64 (b 0), .int .i64 (b 1), .int .i64 (b 2), .int .i64 (b 3), .int .i64 (b 4), .int .i64 (b 5)]) w := by kernel_rfl
theorem okF_a {a b : Nat → Int} {g : Int} (h : okR a g = false) : okF a b g = false := by
  unfold okR at h
  unfold okF
  revert h
  cases isRun a <;> cases isRun b <;> cases decide (1 ≤ g ∧ g ≤ 8) <;> simp
theorem okF_b {a b : Nat → Int} {g : Int} (h : okR b g = false) : okF a b g = false := by
  unfold okR at h
  unfold okF
  revert h
  cases isRun a <;> cases isRun b <;> cases decide (1 ≤ g ∧ g ≤ 8) <;> simp

set_option maxRecDepth 100000 in
set_option maxHeartbeats 16000000 in
theorem implRace_any (a b : Nat → Int) (g : Int) (gb n c : Nat) (p : Nat → Int) (w : World) (hA : At w gb n p) (hn : n ≤ 1048576) :
    Calls Try.prog 51 #[dv a, dv b, .int .i64 g, .slice (some ⟨gb, 0, none⟩) n c] w fun e w' => e = .returned (prv (outR a b g p n)) ∧ Below w.heap.size w w' := by
  have hc := fun w => canRun_any a g w
  have hc' := fun w => canRun_any b g w
  unfold dv at hc hc'
  have Hc := Lib.hid hc; clear hc
  have Hc' := Lib.hid hc'; clear hc'
  have hAl := hA.lt
  cases hr : okR a g
  · rw [hr] at Hc
    have HE := Lib.hid (outR_no p n (okF_a (b := b) hr))
    clear hr
    unfold dv
    have hB := na (na (n0 w) (sixO a 22)) (sixO b 22)
    have hDa := (At.new6 w a 22 rfl).past (sixO b 22)
    have hDb := At.new6 (w.alloc (sixO a 22)) b 22 (b := w.heap.size + 1) (by rw [size_alloc])
    have hA := (hA.past (sixO a 22)).past (sixO b 22)
    obtain ⟨e0, e1, e2, e3, e4, e5⟩ := hDa.six
    obtain ⟨f0, f1, f2, f3, f4, f5⟩ := hDb.six
    go_enter Try.func51, Try.ntmps51
    go_wp2_with fail
    go_step3
    go_wp2_with fail
    refine (Hc.out _).mono ?_
    rintro e w1 ⟨rfl, hb1⟩
    have hB := nx hB hb1
    clear e0 e1 e2 e3 e4 e5
    clear f0 f1 f2 f3 f4 f5
    go_wp2_with fail
    try simp only [Exit.inBlock, Exit.then]
    try rw [Exit.noGoto_ret]
    refine bodyPost_ret (results_tmp3 rfl _ _ _) rfl ?_
    exact ⟨by rw [HE.out]; rfl, hB⟩
  · cases hr2 : okR b g
    · rw [hr] at Hc
      rw [hr2] at Hc'
      have HE := Lib.hid (outR_no p n (okF_b (a := a) hr2))
      clear hr hr2
      unfold dv
      have hB := na (na (n0 w) (sixO a 22)) (sixO b 22)
      have hDa := (At.new6 w a 22 rfl).past (sixO b 22)
      have hDb := At.new6 (w.alloc (sixO a 22)) b 22 (b := w.heap.size + 1) (by rw [size_alloc])
      have hA := (hA.past (sixO a 22)).past (sixO b 22)
      obtain ⟨e0, e1, e2, e3, e4, e5⟩ := hDa.six
      go_enter Try.func51, Try.ntmps51
      go_wp2_with fail
      go_step3
      go_wp2_with fail
      refine (Hc.out _).mono ?_
      rintro e w1 ⟨rfl, hb1⟩
      have hDb := hDb.up hb1
      have hB := nx hB hb1
      clear e0 e1 e2 e3 e4 e5
      obtain ⟨f0, f1, f2, f3, f4, f5⟩ := hDb.six
      go_wp2_with fail
      refine (Hc'.out _).mono ?_
      rintro e w2 ⟨rfl, hb2⟩
      have hB := nx hB hb2
      clear f0 f1 f2 f3 f4 f5
      go_wp2_with fail
      try simp only [Exit.inBlock, Exit.then]
      try rw [Exit.noGoto_ret]
      refine bodyPost_ret (results_tmp3 rfl _ _ _) rfl ?_
      exact ⟨by rw [HE.out]; rfl, hB⟩
    · rw [hr] at Hc
      rw [hr2] at Hc'
      obtain ⟨hra, h1, h8⟩ := of_okR hr
      obtain ⟨hrb, _, _⟩ := of_okR hr2
      have hoy := outR_yes p n (okF_yes hra hrb ⟨h1, h8⟩)
      have Hda := Lib.hid (faces_of hra)
      have Hdb := Lib.hid (faces_of hrb)
      clear hr hr2 hra hrb
      rw [hoy]
      obtain ⟨r, hr⟩ : ∃ r, r = pr a b g p n n (fun _ => 0) := ⟨_, rfl⟩
      rw [← hr]
      have Hr : Hid (r = pr a b g p n (n - 0) (fun _ => 0)) := hr
      clear hr hoy
      unfold dv
      have hB := na (na (n0 w) (sixO a 22)) (sixO b 22)
      have hDa := (At.new6 w a 22 rfl).past (sixO b 22)
      have hDb := At.new6 (w.alloc (sixO a 22)) b 22 (b := w.heap.size + 1) (by rw [size_alloc])
      have hA := (hA.past (sixO a 22)).past (sixO b 22)
      obtain ⟨e0, e1, e2, e3, e4, e5⟩ := hDa.six
      go_enter Try.func51, Try.ntmps51
      go_wp2_with fail
      go_step3
      go_wp2_with fail
      refine (Hc.out _).mono ?_
      rintro e w1 ⟨rfl, hb1⟩
      have hDa := hDa.up hb1
      have hDb := hDb.up hb1
      have hA := hA.up hb1
      have hB := nx hB hb1
      clear e0 e1 e2 e3 e4 e5 hb1
      obtain ⟨f0, f1, f2, f3, f4, f5⟩ := hDb.six
      go_wp2_with fail
      refine (Hc'.out _).mono ?_
      rintro e w2 ⟨rfl, hb2⟩
      have hDa := hDa.up hb2
      have hDb := hDb.up hb2
      have hA := hA.up hb2
      have hB := nx hB hb2
      clear f0 f1 f2 f3 f4 f5
      clear hb2
      have hS := (At.new2 w2 30)
      have hal := hA.lt
      have hbl := hDb.lt
      have hA := hA.past (.cells #[.int .i64 0, .int .i64 0] 30)
      have hDa := hDa.past (.cells #[.int .i64 0, .int .i64 0] 30)
      have hDb := hDb.past (.cells #[.int .i64 0, .int .i64 0] 30)
      have hB := na hB (.cells #[.int .i64 0, .int .i64 0] 30)
      go_wp2_with fail
      go_step3
      go_wp2_with fail
      generalize w2.heap.size = sb at *
      go_loopg [11, 12] n (fun G s11 s12 wr => ∃ (i : Nat) (T : Nat → Int), i + G = n ∧ i % 2 = 0 ∧ s11 = .int .i64 0 ∧ s12 = .int .i64 i ∧ (∀ j, j < 2 → 0 ≤ T j ∧ T j ≤ 8) ∧ Hid (r = pr a b g p n (n - i) T) ∧ At wr sb 2 T ∧ At wr gb n p ∧ At wr w.heap.size 6 a ∧ At wr (w.heap.size + 1) 6 b ∧ Below w.heap.size w wr)
      case atStart => exact ⟨0, fun _ => 0, by omega, by omega, rfl, rfl, fun _ _ => ⟨by show (0 : Int) ≤ 0; omega, by show (0 : Int) ≤ 8; omega⟩, Hr, hS, hA, hDa, hDb, hB⟩
      case round =>
        clear hS hA hDa hDb hB Hr
        obtain ⟨i, T0, hi, hev, rfl, rfl, hSb, hrr, hS, hA, hDa, hDb, hB⟩ := hrel
        obtain ⟨e0, e1, e2, e3, e4, e5⟩ := hDa.six
        obtain ⟨f0, f1, f2, f3, f4, f5⟩ := hDb.six
        go_wp2_with fail
        clear e0 e1 e2 e3 e4 e5 f0 f1 f2 f3 f4 f5
        go_loopg [11, 12, 31] 2 (fun G s11 s12 s31 wy => ∃ (J : Int) (i' : Nat) (T : Nat → Int), (J = 0 ∧ G = 2 ∧ i' = i ∨ J = 1 ∧ G = 1 ∧ i' = i + 1 ∨ J = 2 ∧ G = 0 ∧ i' = i + 2) ∧ i' ≤ n ∧ s11 = .int .i64 0 ∧ s12 = .int .i64 i' ∧ s31 = .int .i64 J ∧ (∀ j, j < 2 → 0 ≤ T j ∧ T j ≤ 8) ∧ Hid (r = pr a b g p n (n - i') T) ∧ At wy sb 2 T ∧ At wy gb n p ∧ At wy w.heap.size 6 a ∧ At wy (w.heap.size + 1) 6 b ∧ Below w.heap.size w wy)
        case atStart => exact ⟨0, i, T0, by omega, by omega, rfl, rfl, rfl, hSb, hrr, hS, hA, hDa, hDb, hB⟩
        case round =>
          clear hS hA hDa hDb hB hSb hrr
          obtain ⟨J, i', T, hJ, hin', rfl, rfl, rfl, hSb, hrr, hS, hA, hDa, hDb, hB⟩ := hrel
          rcases hJ with ⟨rfl, hG, hii'⟩ | ⟨rfl, hG, hii'⟩ | ⟨rfl, hG, hii'⟩
          · have hix := fun w => ix0 a b w
            have HG := Lib.hid (And.intro hG (And.intro hii' (And.intro hi hev)))
            have hmod : i' % 2 = 0 := by omega
            clear hG hii' hi hev
            by_cases hlt : i' < n
            · have hne : ((i' : Int) == (n : Int)) = false := by simp; omega
              have hs := hrr.out
              rw [pr_step a b g p T hlt, hmod] at hs
              have Hs := Lib.hid hs
              have hfa := fun w => faceAt_any a (p i') w
              unfold dv at hfa
              have hD5 := At.new6 wr a 22 rfl
              have HA1 := Lib.hid (hA.past (sixO a 22)).drew
              have HS1 := Lib.hid (hS.past (sixO a 22)).drew
              have HX1 := Lib.hid (hDa.past (sixO a 22)).drew
              have HY1 := Lib.hid (hDb.past (sixO a 22)).drew
              have HB1 := Lib.hid (na hB (sixO a 22)).drew
              have ci := HA1.out.cell i' hlt
              obtain ⟨e0, e1, e2, e3, e4, e5⟩ := hD5.drew.six
              have hii : (0 : Int) ≤ (i' : Int) := by omega
              have hiin : (i' : Int) < (n : Int) := by omega
              clear hs hD5 hrr hA hS hDa hDb hB
              by_cases hx : p i' < 0 ∨ 5 < p i'
              · have HE := Lib.hid (Hs.out.trans (if_pos hx))
                rw [if_pos hx, decide_eq_true hx] at hfa
                have Hfa := Lib.hid hfa
                clear hfa Hs hx
                generalize p i' = x at *
                go_wp2_with fail
                go_region_with (go_at_call 80; refine (Hfa.out _).mono ?_; rintro e w5 ⟨rfl, hb5⟩)
                all_goals
                  go_wp2_with fail
                  try simp only [Exit.inBlock, Exit.then]
                  try rw [Exit.noGoto_ret]
                  refine bodyPost_ret (results_tmp3 rfl _ _ _) rfl ?_
                  exact ⟨by rw [HE.out]; rfl, nx HB1.out hb5⟩
              · have Hs2 := Lib.hid (Hs.out.trans (if_neg hx))
                rw [if_neg hx, decide_eq_false hx] at hfa
                have Hfa := Lib.hid hfa
                obtain ⟨hdx, hf1, hf30⟩ := Hda.out (p i').toNat (by omega)
                have hSl := hSb 0 (by omega)
                have Hy : Hid ((if (0 : Nat) = 1 then b else a) (p i').toNat = a (p i').toNat) := rfl
                obtain ⟨y, hyv⟩ : ∃ y, a (p i').toNat = y := ⟨_, rfl⟩
                obtain ⟨s, hsv⟩ : ∃ s, T 0 = s := ⟨_, rfl⟩
                have hy1 : 1 ≤ y := by omega
                have hy2 : y ≤ 30 := by omega
                have hs1 : 0 ≤ s := by omega
                have hs2 : s ≤ 8 := by omega
                have Hs3 := Hs2.out
                rw [Hy.out, hyv, hsv] at Hs3
                have Hs4 := Lib.hid Hs3
                have hfa := Hfa.out
                rw [hyv] at hfa
                have Hfa := Lib.hid hfa
                have Hsv := Lib.hid hsv
                have hw : wrap64 (s + y) = s + y := by unfold wrap64; omega
                clear hfa Hs Hs2 Hs3 Hy hyv hsv hdx hf1 hf30 hSl hx
                generalize p i' = x at *
                by_cases hge : g ≤ s + y
                · have hgd : decide (g ≤ s + y) = true := decide_eq_true hge
                  have HE := Lib.hid (Hs4.out.trans (if_pos hge))
                  clear Hs4 hge
                  go_wp2_with fail
                  go_region_with (go_at_call 80; refine (Hfa.out _).mono ?_; rintro e w5 ⟨rfl, hb5⟩)
                  all_goals
                    have hS5 := HS1.out.up hb5
                    have s0 := hS5.cell 0 (by omega)
                    rw [Hsv.out] at s0
                    have zz := hS5.free 0
                    go_wp2_with fail
                    try simp only [Exit.inBlock, Exit.then]
                    try rw [Exit.noGoto_ret]
                    refine bodyPost_ret (results_tmp3 rfl _ _ _) rfl ?_
                    exact ⟨by rw [HE.out]; rfl, (nx HB1.out hb5).setCell (p := ⟨sb, 0, none⟩) (by show w.heap.size ≤ sb; omega) _⟩
                · have hgd : decide (g ≤ s + y) = false := decide_eq_false hge
                  have hpb : 0 ≤ s + y ∧ s + y ≤ 8 := by omega
                  have HE := Lib.hid (Hs4.out.trans (if_neg hge))
                  clear Hs4
                  go_wp2_with fail
                  go_region_with (go_at_call 80; refine (Hfa.out _).mono ?_; rintro e w5 ⟨rfl, hb5⟩)
                  all_goals
                    have hS5 := HS1.out.up hb5
                    have s0 := hS5.cell 0 (by omega)
                    rw [Hsv.out] at s0
                    have zz := hS5.free 0
                    have Hset := Lib.hid (hS5.set (i := 0) (by omega))
                    go_wp2_with fail
                    go_roundg 1
                    case rel => exact ⟨1, i' + 1, put T 0 (s + y), by have := HG.out; omega, by omega, rfl, by go_num, rfl, fun j hj => by
                      by_cases hjj : j = 0
                      · rw [show put T 0 (s + y) j = s + y from if_pos hjj]; exact hpb
                      · rw [show put T 0 (s + y) j = T j from if_neg hjj]; exact hSb j hj, HE, Hset.out _, (HA1.out.up hb5).other (by omega) _ _, (HX1.out.up hb5).other (by omega) _ _, (HY1.out.up hb5).other (by omega) _ _, (nx HB1.out hb5).setCell (p := ⟨sb, 0, none⟩) (by show w.heap.size ≤ sb; omega) _⟩
                    case measure => have := HG.out; omega
            · obtain rfl : i' = n := by omega
              have hne : ((i' : Int) == (i' : Int)) = true := by simp
              have hs := hrr.out
              rw [pr_end] at hs
              have HE := Lib.hid hs
              have HBA := Lib.hid (na hB (sixO a 22))
              clear hs hrr
              go_wp2_with fail
              try simp only [Exit.inBlock, Exit.then]
              try rw [Exit.noGoto_ret]
              refine bodyPost_ret (results_tmp3 rfl _ _ _) rfl ?_
              exact ⟨by rw [HE.out]; rfl, HBA.out⟩
          · have hix := fun w => ix1 a b w
            have HG := Lib.hid (And.intro hG (And.intro hii' (And.intro hi hev)))
            have hmod : i' % 2 = 1 := by omega
            clear hG hii' hi hev
            by_cases hlt : i' < n
            · have hne : ((i' : Int) == (n : Int)) = false := by simp; omega
              have hs := hrr.out
              rw [pr_step a b g p T hlt, hmod] at hs
              have Hs := Lib.hid hs
              have hfa := fun w => faceAt_any b (p i') w
              unfold dv at hfa
              have hD5 := At.new6 wr b 22 rfl
              have HA1 := Lib.hid (hA.past (sixO b 22)).drew
              have HS1 := Lib.hid (hS.past (sixO b 22)).drew
              have HX1 := Lib.hid (hDa.past (sixO b 22)).drew
              have HY1 := Lib.hid (hDb.past (sixO b 22)).drew
              have HB1 := Lib.hid (na hB (sixO b 22)).drew
              have ci := HA1.out.cell i' hlt
              obtain ⟨e0, e1, e2, e3, e4, e5⟩ := hD5.drew.six
              have hii : (0 : Int) ≤ (i' : Int) := by omega
              have hiin : (i' : Int) < (n : Int) := by omega
              clear hs hD5 hrr hA hS hDa hDb hB
              by_cases hx : p i' < 0 ∨ 5 < p i'
              · have HE := Lib.hid (Hs.out.trans (if_pos hx))
                rw [if_pos hx, decide_eq_true hx] at hfa
                have Hfa := Lib.hid hfa
                clear hfa Hs hx
                generalize p i' = x at *
                go_wp2_with fail
                go_region_with (go_at_call 80; refine (Hfa.out _).mono ?_; rintro e w5 ⟨rfl, hb5⟩)
                all_goals
                  go_wp2_with fail
                  try simp only [Exit.inBlock, Exit.then]
                  try rw [Exit.noGoto_ret]
                  refine bodyPost_ret (results_tmp3 rfl _ _ _) rfl ?_
                  exact ⟨by rw [HE.out]; rfl, nx HB1.out hb5⟩
              · have Hs2 := Lib.hid (Hs.out.trans (if_neg hx))
                rw [if_neg hx, decide_eq_false hx] at hfa
                have Hfa := Lib.hid hfa
                obtain ⟨hdx, hf1, hf30⟩ := Hdb.out (p i').toNat (by omega)
                have hSl := hSb 1 (by omega)
                have Hy : Hid ((if (1 : Nat) = 1 then b else a) (p i').toNat = b (p i').toNat) := rfl
                obtain ⟨y, hyv⟩ : ∃ y, b (p i').toNat = y := ⟨_, rfl⟩
                obtain ⟨s, hsv⟩ : ∃ s, T 1 = s := ⟨_, rfl⟩
                have hy1 : 1 ≤ y := by omega
                have hy2 : y ≤ 30 := by omega
                have hs1 : 0 ≤ s := by omega
                have hs2 : s ≤ 8 := by omega
                have Hs3 := Hs2.out
                rw [Hy.out, hyv, hsv] at Hs3
                have Hs4 := Lib.hid Hs3
                have hfa := Hfa.out
                rw [hyv] at hfa
                have Hfa := Lib.hid hfa
                have Hsv := Lib.hid hsv
                have hw : wrap64 (s + y) = s + y := by unfold wrap64; omega
                clear hfa Hs Hs2 Hs3 Hy hyv hsv hdx hf1 hf30 hSl hx
                generalize p i' = x at *
                by_cases hge : g ≤ s + y
                · have hgd : decide (g ≤ s + y) = true := decide_eq_true hge
                  have HE := Lib.hid (Hs4.out.trans (if_pos hge))
                  clear Hs4 hge
                  go_wp2_with fail
                  go_region_with (go_at_call 80; refine (Hfa.out _).mono ?_; rintro e w5 ⟨rfl, hb5⟩)
                  all_goals
                    have hS5 := HS1.out.up hb5
                    have s0 := hS5.cell 1 (by omega)
                    rw [Hsv.out] at s0
                    have zz := hS5.free 1
                    go_wp2_with fail
                    try simp only [Exit.inBlock, Exit.then]
                    try rw [Exit.noGoto_ret]
                    refine bodyPost_ret (results_tmp3 rfl _ _ _) rfl ?_
                    exact ⟨by rw [HE.out]; rfl, (nx HB1.out hb5).setCell (p := ⟨sb, 1, none⟩) (by show w.heap.size ≤ sb; omega) _⟩
                · have hgd : decide (g ≤ s + y) = false := decide_eq_false hge
                  have hpb : 0 ≤ s + y ∧ s + y ≤ 8 := by omega
                  have HE := Lib.hid (Hs4.out.trans (if_neg hge))
                  clear Hs4
                  go_wp2_with fail
                  go_region_with (go_at_call 80; refine (Hfa.out _).mono ?_; rintro e w5 ⟨rfl, hb5⟩)
                  all_goals
                    have hS5 := HS1.out.up hb5
                    have s0 := hS5.cell 1 (by omega)
                    rw [Hsv.out] at s0
                    have zz := hS5.free 1
                    have Hset := Lib.hid (hS5.set (i := 1) (by omega))
                    go_wp2_with fail
                    go_roundg 0
                    case rel => exact ⟨2, i' + 1, put T 1 (s + y), by have := HG.out; omega, by omega, rfl, by go_num, rfl, fun j hj => by
                      by_cases hjj : j = 1
                      · rw [show put T 1 (s + y) j = s + y from if_pos hjj]; exact hpb
                      · rw [show put T 1 (s + y) j = T j from if_neg hjj]; exact hSb j hj, HE, Hset.out _, (HA1.out.up hb5).other (by omega) _ _, (HX1.out.up hb5).other (by omega) _ _, (HY1.out.up hb5).other (by omega) _ _, (nx HB1.out hb5).setCell (p := ⟨sb, 1, none⟩) (by show w.heap.size ≤ sb; omega) _⟩
                    case measure => have := HG.out; omega
            · obtain rfl : i' = n := by omega
              have hne : ((i' : Int) == (i' : Int)) = true := by simp
              have hs := hrr.out
              rw [pr_end] at hs
              have HE := Lib.hid hs
              have HBA := Lib.hid (na hB (sixO b 22))
              clear hs hrr
              go_wp2_with fail
              try simp only [Exit.inBlock, Exit.then]
              try rw [Exit.noGoto_ret]
              refine bodyPost_ret (results_tmp3 rfl _ _ _) rfl ?_
              exact ⟨by rw [HE.out]; rfl, HBA.out⟩
          · go_wp2_with fail
            go_roundg (n - i')
            case rel => exact ⟨i', T, by omega, by omega, rfl, rfl, hSb, hrr, hS, hA, hDa, hDb, hB⟩
            case measure => omega


end RaceP1
end Go.Proofs.Ytcffglnfdnanhaa
