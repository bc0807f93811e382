/-
  Races that are played, by the specification.
-/
import Derived.Test.YtcffglnfdnanhaaRows
import Derived.Test.YtcffglnfdnanhaaArr
import Derived.Test.YtcffglnfdnanhaaAnyR
import Derived.Test.YtcffglnfdnanhaaDieW
import Derived.Test.YtcffglnfdnanhaaSortW
import Derived.Test.YtcffglnfdnanhaaFracW
import Derived.Test.YtcffglnfdnanhaaFracL
import Derived.Test.YtcffglnfdnanhaaCutW
import Derived.Test.YtcffglnfdnanhaaAll6
import Derived.Test.YtcffglnfdnanhaaAllL
import Derived.Test.YtcffglnfdnanhaaOwnL
import Derived.Test.YtcffglnfdnanhaaFracM
import Derived.Test.YtcffglnfdnanhaaStopM
import Derived.Test.YtcffglnfdnanhaaRunM
import Derived.Test.YtcffglnfdnanhaaRunI
import Derived.Test.YtcffglnfdnanhaaRunS
import Derived.Test.YtcffglnfdnanhaaRunW
import Derived.Test.YtcffglnfdnanhaaRunW
import Derived.Test.YtcffglnfdnanhaaOpenI
import Derived.Test.YtcffglnfdnanhaaOpenD
import Derived.Test.YtcffglnfdnanhaaPlayW
import Derived.Test.YtcffglnfdnanhaaOpenD
import Derived.WalkKit
import Derived.OwnWalk
import Derived.WalkLawsBesides
import Derived.WalkSpells
import Derived.ProofKit
import Derived.OpenShut
import Derived.Deep.RegionWith
import Derived.Deep.QuietTactic
import Derived.BigQuiet
namespace Go.Proofs.Ytcffglnfdnanhaa
open Go.ChangeShapes Go.WideShapes Go.ChangeAt Go.RowKit
open Go.ChangeMaps (open_string shut_string)

namespace RaceP0
open Dice Arr DieW SortW FracW CutW All6 AllL OwnL FracM StopM RunM RunI RunS RunW OpenG OpenD PlayW

/-- A race that is played: from k places on; the sums of both players. -/
def pr (a b : Nat → Int) (g : Int) (p : Nat → Int) (n : Nat) : Nat → (Nat → Int) → Int × Int × Bool
  | 0, _ => (0, (n : Int), true)
  | k + 1, S => if p (n - (k + 1)) < 0 ∨ 5 < p (n - (k + 1)) then (0, 0, false)
      else if g ≤ S ((n - (k + 1)) % 2) + (if (n - (k + 1)) % 2 = 1 then b else a) (p (n - (k + 1))).toNat then ((((n - (k + 1)) % 2 : Nat) : Int) + 1, ((n - (k + 1) : Nat) : Int) + 1, true)
      else pr a b g p n k (put S ((n - (k + 1)) % 2) (S ((n - (k + 1)) % 2) + (if (n - (k + 1)) % 2 = 1 then b else a) (p (n - (k + 1))).toNat))
theorem pr_end (a b : Nat → Int) (g : Int) (p : Nat → Int) (n : Nat) (S : Nat → Int) : pr a b g p n (n - n) S = (0, (n : Int), true) := by rw [Nat.sub_self]; rfl
theorem pr_step (a b : Nat → Int) (g : Int) (p : Nat → Int) {n i : Nat} (S : Nat → Int) (hi : i < n) : pr a b g p n (n - i) S = if p i < 0 ∨ 5 < p i then (0, 0, false)
      else if g ≤ S (i % 2) + (if i % 2 = 1 then b else a) (p i).toNat then (((i % 2 : Nat) : Int) + 1, (i : Int) + 1, true)
      else pr a b g p n (n - (i + 1)) (put S (i % 2) (S (i % 2) + (if i % 2 = 1 then b else a) (p i).toNat)) := by
  obtain ⟨k, hk⟩ : ∃ k, n - i = k + 1 := ⟨n - i - 1, by omega⟩
  rw [hk]
  have e : n - (k + 1) = i := by omega
  have e2 : n - (i + 1) = k := by omega
  show (if p (n - (k + 1)) < 0 ∨ 5 < p (n - (k + 1)) then _ else _) = _
  rw [e, e2]
def prv (x : Int × Int × Bool) : Value := .tuple #[.int .i64 x.1, .int .i64 x.2.1, .bool x.2.2]
def okF (a b : Nat → Int) (g : Int) : Bool := isRun a && (isRun b && decide (1 ≤ g ∧ g ≤ 8))
theorem okF_1 {a b : Nat → Int} {g : Int} (h : isRun a = false) : okF a b g = false := by simp only [okF, h, Bool.false_and]
theorem okF_2 {a b : Nat → Int} {g : Int} (h : isRun b = false) : okF a b g = false := by simp only [okF, h, Bool.false_and, Bool.and_false]
theorem okF_3 {a b : Nat → Int} {g : Int} (h : ¬ (1 ≤ g ∧ g ≤ 8)) : okF a b g = false := by simp only [okF, decide_eq_false h, Bool.and_false]
theorem okF_yes {a b : Nat → Int} {g : Int} (h1 : isRun a = true) (h2 : isRun b = true) (h : 1 ≤ g ∧ g ≤ 8) : okF a b g = true := by simp only [okF, h1, h2, decide_eq_true h, Bool.and_true]
def outR (a b : Nat → Int) (g : Int) (p : Nat → Int) (n : Nat) : Int × Int × Bool := if okF a b g then pr a b g p n n (fun _ => 0) else (0, 0, false)
theorem outR_no {a b : Nat → Int} {g : Int} (p : Nat → Int) (n : Nat) (h : okF a b g = false) : outR a b g p n = (0, 0, false) := by simp [outR, h]
theorem outR_yes {a b : Nat → Int} {g : Int} (p : Nat → Int) (n : Nat) (h : okF a b g = true) : outR a b g p n = pr a b g p n n (fun _ => 0) := by simp [outR, h]

set_option maxRecDepth 100000 in
set_option maxHeartbeats 16000000 in
theorem specRace_any (a b : Nat → Int) (g : Int) (gb n c : Nat) (p : Nat → Int) (w : World) (hA : At w gb n p) (hn : n ≤ 1048576) :
    Calls Try.prog 50 #[dv a, dv b, .int .i64 g, .slice (some ⟨gb, 0, none⟩) n c] w fun e w' => e = .returned (prv (outR a b g p n)) ∧ Below w.heap.size w w' := by
  have hc := fun w => specRunner_any a w
  have hc' := fun w => specRunner_any b w
  unfold dv at hc hc'
  have Hc := Lib.hid hc; clear hc
  have Hc' := Lib.hid hc'; clear hc'
  have hgo := fun w => specGoal_any g w
  have hAl := hA.lt
  cases hr : isRun a
  · rw [hr] at Hc
    have HE := Lib.hid (outR_no p n (okF_1 (b := b) (g := g) hr))
    clear hr hgo
    unfold dv
    have hB := na (na (n0 w) (sixO a 22)) (sixO b 22)
    have hDa := (At.new6 w a 22 rfl).past (sixO b 22)
    have hDb := At.new6 (w.alloc (sixO a 22)) b 22 (b := w.heap.size + 1) (by rw [size_alloc])
    have hA := (hA.past (sixO a 22)).past (sixO b 22)
    obtain ⟨e0, e1, e2, e3, e4, e5⟩ := hDa.six
    obtain ⟨f0, f1, f2, f3, f4, f5⟩ := hDb.six
    go_enter Try.func50, Try.ntmps50
    go_wp2_with fail
    refine (Hc.out _).mono ?_
    rintro e w1 ⟨rfl, hb1⟩
    have hB := nx hB hb1
    clear hb1
    clear e0 e1 e2 e3 e4 e5
    clear f0 f1 f2 f3 f4 f5
    go_wp2_with fail
    try simp only [Exit.inBlock, Exit.then]
    refine bodyPost_ret (results_tmp3 rfl _ _ _) rfl ?_
    exact ⟨by rw [HE.out]; rfl, hB⟩
  · rw [hr] at Hc
    cases hr2 : isRun b
    · rw [hr2] at Hc'
      have HE := Lib.hid (outR_no p n (okF_2 (a := a) (g := g) hr2))
      clear hr hr2 hgo
      unfold dv
      have hB := na (na (n0 w) (sixO a 22)) (sixO b 22)
      have hDa := (At.new6 w a 22 rfl).past (sixO b 22)
      have hDb := At.new6 (w.alloc (sixO a 22)) b 22 (b := w.heap.size + 1) (by rw [size_alloc])
      have hA := (hA.past (sixO a 22)).past (sixO b 22)
      obtain ⟨e0, e1, e2, e3, e4, e5⟩ := hDa.six
      go_enter Try.func50, Try.ntmps50
      go_wp2_with fail
      refine (Hc.out _).mono ?_
      rintro e w1 ⟨rfl, hb1⟩
      have hDb := hDb.up hb1
      have hB := nx hB hb1
      clear hb1
      clear e0 e1 e2 e3 e4 e5
      obtain ⟨f0, f1, f2, f3, f4, f5⟩ := hDb.six
      go_wp2_with fail
      refine (Hc'.out _).mono ?_
      rintro e w2 ⟨rfl, hb2⟩
      have hB := nx hB hb2
      clear hb2
      clear f0 f1 f2 f3 f4 f5
      go_wp2_with fail
      try simp only [Exit.inBlock, Exit.then]
      refine bodyPost_ret (results_tmp3 rfl _ _ _) rfl ?_
      exact ⟨by rw [HE.out]; rfl, hB⟩
    · rw [hr2] at Hc'
      by_cases hgg : 1 ≤ g ∧ g ≤ 8
      · rw [decide_eq_true hgg] at hgo
        have Hg := Lib.hid hgo; clear hgo
        have hoy := outR_yes p n (okF_yes hr hr2 hgg)
        obtain ⟨h1, h8⟩ := hgg
        have Hda := Lib.hid (faces_of hr)
        have Hdb := Lib.hid (faces_of hr2)
        clear hr hr2
        rw [hoy]
        obtain ⟨r, hr⟩ : ∃ r, r = pr a b g p n n (fun _ => 0) := ⟨_, rfl⟩
        rw [← hr]
        have Hr : Hid (r = pr a b g p n (n - 0) (fun _ => 0)) := hr
        have Hin := Lib.hid (fun x w => l1In_any x 0 5 w)
        clear hr hoy
        unfold dv
        have hB := na (na (n0 w) (sixO a 22)) (sixO b 22)
        have hDa := (At.new6 w a 22 rfl).past (sixO b 22)
        have hDb := At.new6 (w.alloc (sixO a 22)) b 22 (b := w.heap.size + 1) (by rw [size_alloc])
        have hA := (hA.past (sixO a 22)).past (sixO b 22)
        obtain ⟨e0, e1, e2, e3, e4, e5⟩ := hDa.six
        go_enter Try.func50, Try.ntmps50
        go_wp2_with fail
        refine (Hc.out _).mono ?_
        rintro e w1 ⟨rfl, hb1⟩
        have hDa := hDa.up hb1
        have hDb := hDb.up hb1
        have hA := hA.up hb1
        have hB := nx hB hb1
        clear hb1
        clear e0 e1 e2 e3 e4 e5
        obtain ⟨f0, f1, f2, f3, f4, f5⟩ := hDb.six
        go_wp2_with fail
        refine (Hc'.out _).mono ?_
        rintro e w2 ⟨rfl, hb2⟩
        have hDa := hDa.up hb2
        have hDb := hDb.up hb2
        have hA := hA.up hb2
        have hB := nx hB hb2
        clear hb2
        clear f0 f1 f2 f3 f4 f5
        go_wp2_with fail
        refine (Hg.out _).mono ?_
        rintro e w3 ⟨rfl, hw3⟩
        have hw3 := hw3.symm
        subst hw3
        have hS := (At.new2 w2 30)
        have hal := hA.lt
        have hbl := hDb.lt
        have hA := hA.past (.cells #[.int .i64 0, .int .i64 0] 30)
        have hDa := hDa.past (.cells #[.int .i64 0, .int .i64 0] 30)
        have hDb := hDb.past (.cells #[.int .i64 0, .int .i64 0] 30)
        have hB := na hB (.cells #[.int .i64 0, .int .i64 0] 30)
        go_wp2_with fail
        generalize w2.heap.size = sb at *
        go_loopw [12] (fun iv wr => ∃ (i : Nat) (T : Nat → Int), i ≤ n ∧ iv = .int .i64 i ∧ (∀ j, j < 2 → 0 ≤ T j ∧ T j ≤ 8) ∧ Hid (r = pr a b g p n (n - i) T) ∧ At wr sb 2 T ∧ At wr gb n p ∧ At wr w.heap.size 6 a ∧ At wr (w.heap.size + 1) 6 b ∧ Below w.heap.size w wr) (fun iv _ => n - (intOf iv).toNat)
        case atStart => exact ⟨0, fun _ => 0, by omega, rfl, fun _ _ => ⟨by show (0 : Int) ≤ 0; omega, by show (0 : Int) ≤ 8; omega⟩, Hr, hS, hA, hDa, hDb, hB⟩
        case round =>
          clear hS hA hDa hDb hB Hr
          obtain ⟨i, T, hi, rfl, hSb, hrr, hS, hA, hDa, hDb, hB⟩ := hrel
          by_cases hlt : i < n
          · have hit : decide ((i : Int) < (n : Int)) = true := decide_eq_true (by omega)
            have hitN : decide (i < n) = true := decide_eq_true hlt
            have ci := hA.cell i hlt
            have hs := hrr.out
            rw [pr_step a b g p T hlt] at hs
            have Hs := Lib.hid hs
            clear hs
            have hin := Lib.hid (Hin.out (p i))
            by_cases hx : p i < 0 ∨ 5 < p i
            · have HE := Lib.hid (Hs.out.trans (if_pos hx))
              rw [decide_eq_false (show ¬ (0 ≤ p i ∧ p i ≤ 5) by omega)] at hin
              clear Hs hrr hx
              generalize p i = x at *
              go_wp2_with fail
              refine (hin.out _).mono ?_
              rintro e w5 ⟨rfl, hw5⟩
              have hw5 := hw5.symm
              subst hw5
              go_wp2_with fail
              try simp only [Exit.inBlock, Exit.then]
              refine bodyPost_ret (results_tmp3 rfl _ _ _) rfl ?_
              exact ⟨by rw [HE.out]; rfl, hB⟩
            · rw [decide_eq_true (show 0 ≤ p i ∧ p i ≤ 5 by omega)] at hin
              by_cases hpar : i % 2 = 1
              · have hmod : i % 2 = 1 := by omega
                have hs2 := Hs.out
                rw [if_neg hx, hmod] at hs2
                have Hs2 := Lib.hid hs2
                have hm1 : ((i : Nat) : Int).tmod 2 = 1 := by
                  show ((i % 2 : Nat) : Int) = 1
                  rw [hmod]; rfl
                have hm2 : (i : Int) % 2 = 1 := by omega
                obtain ⟨x, hxe⟩ : ∃ x : Nat, p i = x := ⟨(p i).toNat, by omega⟩
                have hx6 : x < 6 := by omega
                rw [hxe] at hin ci
                rw [hxe, Int.toNat_natCast] at Hs2
                obtain ⟨hdx, hf1, hf30⟩ := Hdb.out x hx6
                obtain ⟨hdx', _, _⟩ := Hda.out x hx6
                have cx := hDa.cell x hx6
                have cy := hDb.cell x hx6
                have s0 := hS.cell 1 (by omega)
                have zz := hS.free 1
                have hSl := hSb 1 (by omega)
                have hset := hS.set (i := 1) (by omega)
                have Hset := Lib.hid hset
                clear hset hs2 Hs hrr hx hxe
                generalize hsv : T 1 = s at *
                have Hsv := Lib.hid hsv
                have Hy : Hid ((if (1 : Nat) = 1 then b else a) x = b x) := rfl
                generalize hyv : b x = y at *
                have Hyv := Lib.hid hyv
                have hw : wrap64 (s + y) = s + y := by unfold wrap64; omega
                have hy1 : 1 ≤ y := by omega
                clear hsv hyv hmod hdx hdx'
                by_cases hge : g ≤ s + y
                · have hgd : decide (g ≤ s + y) = true := decide_eq_true hge
                  have HE := Lib.hid (Hs2.out.trans (if_pos (by rw [Hy.out]; exact hge)))
                  clear Hs2 hge
                  go_wp2_with fail
                  refine (hin.out _).mono ?_
                  rintro e w5 ⟨rfl, hw5⟩
                  have hw5 := hw5.symm
                  subst hw5
                  go_wp2_with fail
                  try simp only [Exit.inBlock, Exit.then]
                  refine bodyPost_ret (results_tmp3 rfl _ _ _) rfl ?_
                  exact ⟨by rw [HE.out]; rfl, hB.setCell (p := ⟨sb, 1, none⟩) (by show w.heap.size ≤ sb; omega) _⟩
                · have hgd : decide (g ≤ s + y) = false := decide_eq_false hge
                  have hpb : 0 ≤ s + y ∧ s + y ≤ 8 := by omega
                  have HE := Lib.hid (Hs2.out.trans (if_neg (by rw [Hy.out]; exact hge)))
                  clear Hs2
                  go_wp2_with fail
                  refine (hin.out _).mono ?_
                  rintro e w5 ⟨rfl, hw5⟩
                  have hw5 := hw5.symm
                  subst hw5
                  go_wp2_with fail
                  go_roundw
                  case rel => exact ⟨i + 1, put T 1 (s + y), by omega, by go_num, fun j hj => by
                    by_cases hjj : j = 1
                    · rw [show put T 1 (s + y) j = s + y from if_pos hjj]; exact hpb
                    · rw [show put T 1 (s + y) j = T j from if_neg hjj]; exact hSb j hj, by have h2 := HE.out; rw [Hy.out] at h2; exact h2, Hset.out _, hA.other (by omega) _ _, hDa.other (by omega) _ _, hDb.other (by omega) _ _, hB.setCell (p := ⟨sb, 1, none⟩) (by show w.heap.size ≤ sb; omega) _⟩
                  case measure => simp [intOf]; omega
              · have hmod : i % 2 = 0 := by omega
                have hs2 := Hs.out
                rw [if_neg hx, hmod] at hs2
                have Hs2 := Lib.hid hs2
                have hm1 : ((i : Nat) : Int).tmod 2 = 0 := by
                  show ((i % 2 : Nat) : Int) = 0
                  rw [hmod]; rfl
                have hm2 : (i : Int) % 2 = 0 := by omega
                obtain ⟨x, hxe⟩ : ∃ x : Nat, p i = x := ⟨(p i).toNat, by omega⟩
                have hx6 : x < 6 := by omega
                rw [hxe] at hin ci
                rw [hxe, Int.toNat_natCast] at Hs2
                obtain ⟨hdx, hf1, hf30⟩ := Hda.out x hx6
                obtain ⟨hdx', _, _⟩ := Hda.out x hx6
                have cx := hDa.cell x hx6
                have cy := hDb.cell x hx6
                have s0 := hS.cell 0 (by omega)
                have zz := hS.free 0
                have hSl := hSb 0 (by omega)
                have hset := hS.set (i := 0) (by omega)
                have Hset := Lib.hid hset
                clear hset hs2 Hs hrr hx hxe
                generalize hsv : T 0 = s at *
                have Hsv := Lib.hid hsv
                have Hy : Hid ((if (0 : Nat) = 1 then b else a) x = a x) := rfl
                generalize hyv : a x = y at *
                have Hyv := Lib.hid hyv
                have hw : wrap64 (s + y) = s + y := by unfold wrap64; omega
                have hy1 : 1 ≤ y := by omega
                clear hsv hyv hmod hdx hdx'
                by_cases hge : g ≤ s + y
                · have hgd : decide (g ≤ s + y) = true := decide_eq_true hge
                  have HE := Lib.hid (Hs2.out.trans (if_pos (by rw [Hy.out]; exact hge)))
                  clear Hs2 hge
                  go_wp2_with fail
                  refine (hin.out _).mono ?_
                  rintro e w5 ⟨rfl, hw5⟩
                  have hw5 := hw5.symm
                  subst hw5
                  go_wp2_with fail
                  try simp only [Exit.inBlock, Exit.then]
                  refine bodyPost_ret (results_tmp3 rfl _ _ _) rfl ?_
                  exact ⟨by rw [HE.out]; rfl, hB.setCell (p := ⟨sb, 0, none⟩) (by show w.heap.size ≤ sb; omega) _⟩
                · have hgd : decide (g ≤ s + y) = false := decide_eq_false hge
                  have hpb : 0 ≤ s + y ∧ s + y ≤ 8 := by omega
                  have HE := Lib.hid (Hs2.out.trans (if_neg (by rw [Hy.out]; exact hge)))
                  clear Hs2
                  go_wp2_with fail
                  refine (hin.out _).mono ?_
                  rintro e w5 ⟨rfl, hw5⟩
                  have hw5 := hw5.symm
                  subst hw5
                  go_wp2_with fail
                  go_roundw
                  case rel => exact ⟨i + 1, put T 0 (s + y), by omega, by go_num, fun j hj => by
                    by_cases hjj : j = 0
                    · rw [show put T 0 (s + y) j = s + y from if_pos hjj]; exact hpb
                    · rw [show put T 0 (s + y) j = T j from if_neg hjj]; exact hSb j hj, by have h2 := HE.out; rw [Hy.out] at h2; exact h2, Hset.out _, hA.other (by omega) _ _, hDa.other (by omega) _ _, hDb.other (by omega) _ _, hB.setCell (p := ⟨sb, 0, none⟩) (by show w.heap.size ≤ sb; omega) _⟩
                  case measure => simp [intOf]; omega
          · obtain rfl : i = n := by omega
            have hit : decide ((i : Int) < (i : Int)) = false := decide_eq_false (by omega)
            have hs2 := hrr.out
            rw [pr_end] at hs2
            have HE := Lib.hid hs2
            clear hs2
            go_wp2_with fail
            try simp only [Exit.inBlock, Exit.then]
            refine bodyPost_ret (results_tmp3 rfl _ _ _) rfl ?_
            exact ⟨by rw [HE.out]; rfl, hB⟩
      · rw [decide_eq_false hgg] at hgo
        have Hg := Lib.hid hgo; clear hgo
        have HE := Lib.hid (outR_no p n (okF_3 (a := a) (b := b) hgg))
        clear hr hr2 hgg
        unfold dv
        have hB := na (na (n0 w) (sixO a 22)) (sixO b 22)
        have hDa := (At.new6 w a 22 rfl).past (sixO b 22)
        have hDb := At.new6 (w.alloc (sixO a 22)) b 22 (b := w.heap.size + 1) (by rw [size_alloc])
        have hA := (hA.past (sixO a 22)).past (sixO b 22)
        obtain ⟨e0, e1, e2, e3, e4, e5⟩ := hDa.six
        go_enter Try.func50, Try.ntmps50
        go_wp2_with fail
        refine (Hc.out _).mono ?_
        rintro e w1 ⟨rfl, hb1⟩
        have hDb := hDb.up hb1
        have hB := nx hB hb1
        clear hb1
        clear e0 e1 e2 e3 e4 e5
        obtain ⟨f0, f1, f2, f3, f4, f5⟩ := hDb.six
        go_wp2_with fail
        refine (Hc'.out _).mono ?_
        rintro e w2 ⟨rfl, hb2⟩
        have hB := nx hB hb2
        clear hb2
        clear f0 f1 f2 f3 f4 f5
        go_wp2_with fail
        refine (Hg.out _).mono ?_
        rintro e w3 ⟨rfl, hw3⟩
        have hw3 := hw3.symm
        subst hw3
        go_wp2_with fail
        try simp only [Exit.inBlock, Exit.then]
        refine bodyPost_ret (results_tmp3 rfl _ _ _) rfl ?_
        exact ⟨by rw [HE.out]; rfl, hB⟩


end RaceP0
end Go.Proofs.Ytcffglnfdnanhaa
