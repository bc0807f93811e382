/-
  l8Overlap of the model.
-/
import Derived.Test.YtdodokeebmdceaaRows
import Derived.Test.YtdodokeebmdceaaArr
import Derived.Test.YtdodokeebmdceaaAnyR
import Derived.Test.YtdodokeebmdceaaDieW
import Derived.Test.YtdodokeebmdceaaSortW
import Derived.Test.YtdodokeebmdceaaFracW
import Derived.Test.YtdodokeebmdceaaFracL
import Derived.Test.YtdodokeebmdceaaCutW
import Derived.Test.YtdodokeebmdceaaAll6
import Derived.Test.YtdodokeebmdceaaAllL
import Derived.Test.YtdodokeebmdceaaOwnL
import Derived.Test.YtdodokeebmdceaaFracM
import Derived.Test.YtdodokeebmdceaaWgtM
import Derived.Test.YtdodokeebmdceaaWgtW
import Derived.Test.YtdodokeebmdceaaShelfSl
import Derived.Test.YtdodokeebmdceaaOpenI
import Derived.Test.YtdodokeebmdceaaPhrM
import Derived.Test.YtdodokeebmdceaaPhrW
import Derived.Test.YtdodokeebmdceaaPhrV
import Derived.Test.YtdodokeebmdceaaOvI
import Derived.Test.YtdodokeebmdceaaGoalW
import Derived.Test.YtdodokeebmdceaaFracB2
import Derived.Test.YtdodokeebmdceaaOpenD
import Derived.StillTail
import Derived.StillTactics
import Derived.StillTailTactics
import Derived.BigRegion
import Derived.WalkKit
import Derived.WalkLawsBesides
import Derived.WalkSpells
import Derived.ProofKit
import Derived.OpenShut
import Derived.Deep.RegionWith
import Derived.Deep.QuietTactic
import Derived.BigQuiet
namespace Go.Proofs.Ytdodokeebmdceaa
open Go.ChangeShapes Go.WideShapes Go.ChangeAt Go.RowKit
open Go.ChangeMaps (open_string shut_string)

namespace OvS
open Dice Arr DieW SortW FracW CutW All6 AllL OwnL FracM WgtM WgtW OpenG PhrM PhrW AnyR PhrV OvI GoalW

def frY (d : Nat → Int) (ga n gb m k h : Nat) (u22 u23 u34 u35 u36 u37 u38 u39 u40 u41 u42 u43 u44 u45 u46 : Value) (u24 u25 u26 u27 u28 u29 u30 u31 u32 u33 : Value) : Act := ⟨#[(.agg #[.int .i64 (d 0), .int .i64 (d 1), .int .i64 (d 2), .int .i64 (d 3), .int .i64 (d 4), .int .i64 (d 5)]), .slice (some ⟨ga, 0, none⟩) n n, .slice (some ⟨gb, 0, none⟩) m m, .pointer (some ⟨h, 0, none⟩), undef, undef, .pointer (some ⟨h + 1, 0, none⟩), .pointer (some ⟨h + 2, 0, none⟩), .pointer (some ⟨h + 2 + 1, 0, none⟩), .int .i64 k, .agg #[.int .i64 0, .int .i64 1], .agg #[.int .i64 1, .int .i64 1], .int .i64 k, .slice (some ⟨ga, 0, none⟩) n n, .int .i64 n, .bool true, .bool true, .int .i64 k, .slice (some ⟨gb, 0, none⟩) m m, .int .i64 m, .bool true, .bool true, u22, u23, u24, u25, u26, u27, u28, u29, u30, u31, u32, u33, u34, u35, u36, u37, u38, u39, u40, u41, u42, u43, u44, u45, u46, undef], []⟩

set_option maxRecDepth 100000 in
set_option maxHeartbeats 8000000 in
theorem specOv_any (d : Nat → Int) (ga n gb m : Nat) (fa fb : Nat → Int) (w : World) (hA : At w ga n fa) (hC : At w gb m fb) (hn : 1 ≤ n ∧ n ≤ 6) (hm : 1 ≤ m ∧ m ≤ 6) (hv : ∀ i, i < m → 1 ≤ wv d fb i) :
    Calls Try.prog 71 #[dv d, .slice (some ⟨ga, 0, none⟩) n n, .slice (some ⟨gb, 0, none⟩) m m] w fun e w' => e = .returned (v2 (num (nn (wv d fb) (mt fa fb n) m (min n m)) (pr (wv d fb) m) : Nat) (den (nn (wv d fb) (mt fa fb n) m (min n m)) (pr (wv d fb) m) : Nat)) ∧ Below w.heap.size w w' := by
  obtain ⟨K, hK⟩ : ∃ K, K = min n m := ⟨_, rfl⟩
  rw [← hK]
  have HKn : K ≤ n := by omega
  have HKm : K ≤ m := by omega
  have hKx : K = n ∨ K = m := by omega
  clear hK
  rw [(same_cut HKm hv).1, (same_cut HKm hv).2]
  obtain ⟨V, hV⟩ : ∃ V, V = wv d fb := ⟨_, rfl⟩
  obtain ⟨M, hM⟩ : ∃ M, M = mt fa fb n := ⟨_, rfl⟩
  have hw : ∀ i w, Calls Try.prog 55 #[dv d, .int .i64 (fb i)] w fun e w' => e = .returned (.int .i64 (V i : Nat)) ∧ Below w.heap.size w w' := fun i w => by rw [hV]; exact specW_any d (fb i) w
  have hV6 : ∀ i, V i ≤ 6 := fun i => by rw [hV]; exact wv_le d fb i
  rw [← hV] at hv ⊢
  rw [← hM]
  unfold dv at hw
  have Hw := Lib.hid hw; clear hw
  have Hs1 := Lib.hid (ss_le6 (mt := M) hV6)
  have Hp1 := Lib.hid (pr_le hV6)
  have HV6 := Lib.hid hV6; clear hV6
  have Hv := Lib.hid hv; clear hv
  have Hsame := Lib.hid (fun (A A' : Option Addr) (k c c' : Nat) (f g : Nat → Int) (w : World) (h : RowI w A k f) (h' : RowI w A' k g) (hk : k ≤ 1048576) => same_any A A' k c c' f g w h h' hk)
  have HMk : Hid (∀ k, M k = mt fa fb n k) := fun k => by rw [hM]
  have Htm := Lib.hid FracB2.times_any
  have Hpl := Lib.hid FracB2.plus_any
  have hsla : ∀ (k : Nat) (hk : 1 ≤ k) (hkn : k ≤ n) (w : World), (Instr.slice 37 (.slice (some ⟨ga, 0, none⟩) n n) (some (.int .i64 (n - k : Nat))) none none).run Try.prog w = .ok (.slice (some ⟨ga, n - k, none⟩) k k) w := fun k hk hkn w => by
    have := sl_from (g := ga) (n := n) (c := n) (l := n - k) (by omega) (by omega) w
    rw [show n - (n - k) = k by omega] at this
    exact this
  have hslb := fun (k : Nat) (hk : k ≤ m) (w : World) => sl_to (g := gb) (n := m) (c := m) hk hm.1 w
  have Hsa := Lib.hid hsla; clear hsla
  have Hsb := Lib.hid hslb; clear hslb
  clear hV hM
  unfold dv
  have hB1 := na (na (na (na (n0 w) (sixO d 22)) (.cells #[.int .i64 0, .int .i64 0] 29)) (.cells #[.int .i64 0, .int .i64 1] 29)) (.cells #[.int .i64 1, .int .i64 1] 29)
  have hD1 := (((At.new6 w d 22 rfl).past (.cells #[.int .i64 0, .int .i64 0] 29)).past (.cells #[.int .i64 0, .int .i64 1] 29)).past (.cells #[.int .i64 1, .int .i64 1] 29)
  have hA1 := (((hA.past (sixO d 22)).past (.cells #[.int .i64 0, .int .i64 0] 29)).past (.cells #[.int .i64 0, .int .i64 1] 29)).past (.cells #[.int .i64 1, .int .i64 1] 29)
  have hC1 := (((hC.past (sixO d 22)).past (.cells #[.int .i64 0, .int .i64 0] 29)).past (.cells #[.int .i64 0, .int .i64 1] 29)).past (.cells #[.int .i64 1, .int .i64 1] 29)
  have hR0 := At.new2 (w.alloc (sixO d 22)) 29
  rw [size_alloc] at hR0
  have hR1 := (hR0.past (.cells #[.int .i64 0, .int .i64 1] 29)).past (.cells #[.int .i64 1, .int .i64 1] 29)
  have hS1 := (At.newGb ((w.alloc (sixO d 22)).alloc (.cells #[.int .i64 0, .int .i64 0] 29)) 0 1 29 (p := w.heap.size + 2) (by rw [size_alloc, size_alloc])).past (.cells #[.int .i64 1, .int .i64 1] 29)
  have hO1 := At.newGb (((w.alloc (sixO d 22)).alloc (.cells #[.int .i64 0, .int .i64 0] 29)).alloc (.cells #[.int .i64 0, .int .i64 1] 29)) 1 1 29 (p := w.heap.size + 2 + 1) (by rw [size_alloc, size_alloc, size_alloc])
  have hgal := hA.lt
  have hgbl := hC.lt
  clear hA hC hR0
  go_enter Try.func71, Try.ntmps71
  go_wp2_with fail
  go_loopw [9] (fun kv wr => ∃ k k1 : Nat, (k1 ≤ k + 1 ∧ k + 1 ≤ k1) ∧ k ≤ K ∧ kv = .int .i64 k1 ∧ At wr (w.heap.size + 2) 2 (fr (num (ss V M k) (pr V k) : Nat) (den (ss V M k) (pr V k) : Nat)) ∧ At wr (w.heap.size + 2 + 1) 2 (fr (num (6 ^ k) (pr V k) : Nat) (den (6 ^ k) (pr V k) : Nat)) ∧ At wr ga n fa ∧ At wr gb m fb ∧ At wr w.heap.size 6 d ∧ At wr (w.heap.size + 1) 2 (fun _ => 0) ∧ Below w.heap.size w wr) (fun kv _ => K + 1 - (intOf kv).toNat)
  case atStart =>
    have e1 : fr ((num (ss V M 0) (pr V 0) : Nat) : Int) ((den (ss V M 0) (pr V 0) : Nat) : Int) = fr 0 1 := by
      have h1 : num (ss V M 0) (pr V 0) = 0 := (num_one 0).1
      have h2 : den (ss V M 0) (pr V 0) = 1 := (num_one 0).2
      rw [h1, h2]; rfl
    have e2 : fr ((num (6 ^ 0) (pr V 0) : Nat) : Int) ((den (6 ^ 0) (pr V 0) : Nat) : Int) = fr 1 1 := by
      have h1 : num (6 ^ 0) (pr V 0) = 1 := (num_one 1).1
      have h2 : den (6 ^ 0) (pr V 0) = 1 := (num_one 1).2
      rw [h1, h2]; rfl
    exact ⟨0, 1, by omega, by omega, rfl, by rw [e1]; exact hS1, by rw [e2]; exact hO1, hA1, hC1, hD1, hR1, hB1⟩
  case round =>
    clear hS1 hO1 hA1 hC1 hD1 hR1 hB1
    obtain ⟨k0, k, ⟨hk1, hk2⟩, hk, rfl, hS, hO, hA, hC, hD, hR, hB⟩ := hrel
    by_cases hlt : k0 < K
    · have g1 : decide ((k : Int) ≤ (n : Int)) = true := decide_eq_true (by omega)
      have g1N : decide (k ≤ n) = true := decide_eq_true (by omega)
      have g2 : decide ((k : Int) ≤ (m : Int)) = true := decide_eq_true (by omega)
      have g2N : decide (k ≤ m) = true := decide_eq_true (by omega)
      have hkk : k0 + 1 = k := by omega
      have hvk := Hv.out k0 (by omega)
      have hvk6 := HV6.out k0
      have hvs : ∀ i, i < k0 + 1 → 1 ≤ V i := fun i hi => Hv.out i (by omega)
      have hP0 := pr_pos (v := V) (k := k0) fun i hi => Hv.out i (by omega)
      have hP1 := pr_pos (v := V) (k := k0 + 1) hvs
      have hon := one_next (v := V) (k := k0) hvs
      have hb1 := den_le_num (a := 6 ^ k0) (b := pr V k0)
      have hb2 := den_pos (a := 6 ^ k0) hP0
      have hb3 := Nat.le_trans (Hp1.out k0) (six_le (by omega))
      have hb4 := six_le (k := k0) (by omega)
      have htk : ∀ w, Calls Try.prog 96 #[v2 ((num (6 ^ k0) (pr V k0) : Nat) : Int) ((den (6 ^ k0) (pr V k0) : Nat) : Int), v2 6 ((V k0 : Nat) : Int)] w fun e w' => e = .returned (v2 ((num (6 ^ k) (pr V k) : Nat) : Int) ((den (6 ^ k) (pr V k) : Nat) : Int)) ∧ Below w.heap.size w w' := fun w => by
        have := Htm.out (num (6 ^ k0) (pr V k0)) (den (6 ^ k0) (pr V k0)) 6 (V k0) w (by omega) (Nat.le_trans (Nat.mul_le_mul (Nat.le_trans hb1.2 hb3) hvk6) (by decide)) (Nat.mul_pos hb2 hvk)
        refine this.mono ?_
        rintro e w' ⟨he, hb⟩
        refine ⟨?_, hb⟩
        rw [he, ← hkk, ← hon.1, ← hon.2]
        rfl
      have Htk := Lib.hid htk; clear htk
      have hpk : 6 ^ (k0 + 1) = 6 ^ k := by rw [hkk]
      have hwk := Hw.out k0
      have Hwk := Lib.hid hwk; clear hwk
      have hss := Hs1.out k0 (by omega)
      have hskip : M k = false → num (ss V M k) (pr V k) = num (ss V M k0) (pr V k0) ∧ den (ss V M k) (pr V k) = den (ss V M k0) (pr V k0) := fun h => by
        rw [← hkk] at h ⊢
        exact ss_skip h hvs
      have hhit : M k = true → ∀ w, Calls Try.prog 77 #[v2 ((num (ss V M k0) (pr V k0) : Nat) : Int) ((den (ss V M k0) (pr V k0) : Nat) : Int), v2 ((num (6 ^ k) (pr V k) : Nat) : Int) ((den (6 ^ k) (pr V k) : Nat) : Int)] w fun e w' => e = .returned (v2 ((num (ss V M k) (pr V k) : Nat) : Int) ((den (ss V M k) (pr V k) : Nat) : Int)) ∧ Below w.heap.size w w' := fun h w => by
        rw [← hkk] at h ⊢
        have h1 := ss_hit h hvs
        have h2 := den_le_num (a := ss V M k0) (b := pr V k0)
        have h3 := den_le_num (a := 6 ^ (k0 + 1)) (b := pr V (k0 + 1))
        have h4 := den_pos (a := ss V M k0) hP0
        have h5 := den_pos (a := 6 ^ (k0 + 1)) hP1
        have h6 := Nat.le_trans (Hp1.out (k0 + 1)) (six_le (by omega))
        have h7 := six_le (k := k0 + 1) (by omega)
        have h8 : num (ss V M k0) (pr V k0) * den (6 ^ (k0 + 1)) (pr V (k0 + 1)) ≤ 279936 * 46656 := Nat.mul_le_mul (Nat.le_trans h2.1 hss) (Nat.le_trans h3.2 h6)
        have h9 : num (6 ^ (k0 + 1)) (pr V (k0 + 1)) * den (ss V M k0) (pr V k0) ≤ 46656 * 46656 := Nat.mul_le_mul (Nat.le_trans h3.1 h7) (Nat.le_trans h2.2 hb3)
        have h10 : den (ss V M k0) (pr V k0) * den (6 ^ (k0 + 1)) (pr V (k0 + 1)) ≤ 46656 * 46656 := Nat.mul_le_mul (Nat.le_trans h2.2 hb3) (Nat.le_trans h3.2 h6)
        have := Hpl.out (num (ss V M k0) (pr V k0)) (den (ss V M k0) (pr V k0)) (num (6 ^ (k0 + 1)) (pr V (k0 + 1))) (den (6 ^ (k0 + 1)) (pr V (k0 + 1))) w (Nat.le_trans (Nat.add_le_add h8 h9) (by decide)) (Nat.le_trans h10 (by decide)) (Nat.mul_pos h4 h5)
        refine this.mono ?_
        rintro e w' ⟨he, hb⟩
        refine ⟨?_, hb⟩
        rw [he, ← h1.1, ← h1.2]
        rfl
      have Hskip := Lib.hid hskip; clear hskip
      have Hhit := Lib.hid hhit; clear hhit
      clear hvk hvs hP0 hP1 hon hb1 hb2 hb3 hb4 hpk hss
      generalize hx2 : num (6 ^ k) (pr V k) = x2 at *
      have Hx2 := Lib.hid hx2; clear hx2
      generalize hy2 : den (6 ^ k) (pr V k) = y2 at *
      have Hy2 := Lib.hid hy2; clear hy2
      generalize num (6 ^ k0) (pr V k0) = x at *
      generalize den (6 ^ k0) (pr V k0) = y at *
      generalize hsx2 : num (ss V M k) (pr V k) = sx2 at *
      have Hsx2 := Lib.hid hsx2; clear hsx2
      generalize hsy2 : den (ss V M k) (pr V k) = sy2 at *
      have Hsy2 := Lib.hid hsy2; clear hsy2
      generalize num (ss V M k0) (pr V k0) = sx at *
      generalize den (ss V M k0) (pr V k0) = sy at *
      generalize V k0 = vk at *
      have hsub1 : (k : Int) - 1 = (k0 : Int) := by omega
      have hwr1 : IntKind.i64.wrap (k0 : Int) = (k0 : Int) := FracL.wrap_sameL _ (by omega) (by omega)
      have hk0m : (k0 : Int) < (m : Int) := by omega
      have hk00 : (0 : Int) ≤ (k0 : Int) := by omega
      have hk0n : k0 < m := by omega
      have hs1 := Hsa.out k (by omega) (by omega)
      have hs2 := Hsb.out k (by omega)
      have Hsub : (n : Int) - (k : Int) = ((n - k : Nat) : Int) := by omega
      have hwsub : IntKind.i64.wrap ((n - k : Nat) : Int) = ((n - k : Nat) : Int) := FracL.wrap_sameL _ (by omega) (by omega)
      have hqk : ∀ w, At w ga n fa → At w gb m fb → Calls Try.prog 97 #[.slice (some ⟨ga, n - k, none⟩) k k, .slice (some ⟨gb, 0, none⟩) k m] w fun e w' => e = .returned (.bool (M k)) ∧ Below w.heap.size w w' := fun w h1 h2 => by
        rw [HMk.out k]
        exact Hsame.out _ _ k k m _ _ w (row_of h1 (by omega)) (row_to h2 (by omega)) (by omega)
      have Hqk := Lib.hid hqk; clear hqk
      go_wp2_with fail
      obtain ⟨W, hW⟩ : ∃ W, W = wr := ⟨_, rfl⟩
      rw [← hW] at hS hO hA hC hD hR hB ⊢
      clear hW
      refine wp_region_inc (I := fun L az w' => ∃ u24 u25 u26 u27 u28 u29 u30 u31 u32 u33 : Value, az = frY d ga n gb m k w.heap.size u22 u23 u34 u35 u36 u37 u38 u39 u40 u41 u42 u43 u44 u45 u46 u24 u25 u26 u27 u28 u29 u30 u31 u32 u33 ∧ (L 0 = true → u24 = (v2 x y)) ∧ (L 1 = true → u25 = (.agg #[.int .i64 (d 0), .int .i64 (d 1), .int .i64 (d 2), .int .i64 (d 3), .int .i64 (d 4), .int .i64 (d 5)])) ∧ (L 2 = true → u26 = (.slice (some ⟨gb, 0, none⟩) m m)) ∧ (L 3 = true → u27 = (.int .i64 (k : Int))) ∧ (L 4 = true → u28 = (.int .i64 (k0 : Int))) ∧ (L 5 = true → u29 = (.pointer (some ⟨gb, k0, none⟩))) ∧ (L 6 = true → u30 = (.int .i64 (fb k0))) ∧ (L 7 = true → u31 = (.int .i64 ((vk : Nat) : Int))) ∧ (L 8 = true → u32 = (v2 6 vk)) ∧ (L 9 = true → u33 = (v2 x2 y2)) ∧ Below w.heap.size W w' ∧ At w' w.heap.size 6 d ∧ At w' gb m fb ∧ At w' ga n fa ∧ At w' (w.heap.size + 2) 2 (fr sx sy) ∧ At w' (w.heap.size + 1) 2 (fun _ => 0) ∧ At w' (w.heap.size + 2 + 1) 2 (fun k => if L 10 = true then (fr x2 y2) k else (fr x y) k)) (by kernel_rfl) (by kernel_rfl) ?_ ?_ ?_
      · exact ⟨_, _, _, _, _, _, _, _, _, _, rfl, (fun h => by cases h), (fun h => by cases h), (fun h => by cases h), (fun h => by cases h), (fun h => by cases h), (fun h => by cases h), (fun h => by cases h), (fun h => by cases h), (fun h => by cases h), (fun h => by cases h), ((Below.refl _ W).drew), (hD).drew, (hC).drew, (hA).drew, (hS).drew, (hR).drew, At.congr ((hO).drew) (fun k _ => rfl)⟩
      · intro L az wz i hi hL hdep hcl hI
        obtain ⟨u24, u25, u26, u27, u28, u29, u30, u31, u32, u33, rfl, e0, e1, e2, e3, e4, e5, e6, e7, e8, e9, hB0, hK0, hK1, hK2, hK3, hK4, hT0⟩ := hI
        have hi' : i < 11 := hi
        clear hi
        obtain rfl | rfl | rfl | rfl | rfl | rfl | rfl | rfl | rfl | rfl | rfl : i = 0 ∨ i = 1 ∨ i = 2 ∨ i = 3 ∨ i = 4 ∨ i = 5 ∨ i = 6 ∨ i = 7 ∨ i = 8 ∨ i = 9 ∨ i = 10 := by omega
        · have h9f : L 10 = false := by cases h : L 10; rfl; exact absurd (hcl 10 0 h (by kernel_rfl)) (by rw [hL]; decide)
          have hT1 : At wz (w.heap.size + 2 + 1) 2 (fr x y) := hT0.congr (fun k _ => by show (if L 10 = true then _ else _) = _; rw [h9f]; rfl)
          have cc0 := hT1.cell 0 (by omega)
          have cc1 := hT1.cell 1 (by omega)
          rw [show fr (x : Int) (y : Int) 0 = x from rfl] at cc0
          rw [show fr (x : Int) (y : Int) 1 = y from rfl] at cc1
          have HB := Lib.hid hB0; clear hB0
          have HK0 := Lib.hid hK0; clear hK0
          have HK1 := Lib.hid hK1; clear hK1
          have HK2 := Lib.hid hK2; clear hK2
          have HK3 := Lib.hid hK3; clear hK3
          have HK4 := Lib.hid hK4; clear hK4
          refine wpOp_want rfl rfl ?_
          unfold frY
          go_simp
          exact ⟨(v2 x y), u25, u26, u27, u28, u29, u30, u31, u32, u33, by first | rfl | simp, fun _ => rfl, e1, e2, e3, e4, e5, e6, e7, e8, e9, HB.out, HK0.out, HK1.out, HK2.out, HK3.out, HK4.out, hT0⟩
        · obtain ⟨y0, y1, y2, y3, y4, y5⟩ := hK0.six
          have HB := Lib.hid hB0; clear hB0
          have HK0 := Lib.hid hK0; clear hK0
          have HK1 := Lib.hid hK1; clear hK1
          have HK2 := Lib.hid hK2; clear hK2
          have HK3 := Lib.hid hK3; clear hK3
          have HK4 := Lib.hid hK4; clear hK4
          refine wpOp_want rfl rfl ?_
          unfold frY
          go_simp
          exact ⟨u24, (.agg #[.int .i64 (d 0), .int .i64 (d 1), .int .i64 (d 2), .int .i64 (d 3), .int .i64 (d 4), .int .i64 (d 5)]), u26, u27, u28, u29, u30, u31, u32, u33, by first | rfl | simp, e0, fun _ => rfl, e2, e3, e4, e5, e6, e7, e8, e9, HB.out, HK0.out, HK1.out, HK2.out, HK3.out, HK4.out, hT0⟩
        · refine wpOp_want rfl rfl (Oper.wp_of_quiet (C := fun w' => w' = wz) (K := fun a' => a' = frY d ga n gb m k w.heap.size u22 u23 u34 u35 u36 u37 u38 u39 u40 u41 u42 u43 u44 u45 u46 (u24) (u25) ((.slice (some ⟨gb, 0, none⟩) m m)) (u27) (u28) (u29) (u30) (u31) (u32) (u33)) rfl ?_ ?_)
          · intro a' w' hC' hK
            subst hK
            subst hC'
            exact ⟨u24, u25, (.slice (some ⟨gb, 0, none⟩) m m), u27, u28, u29, u30, u31, u32, u33, by first | rfl | simp, e0, e1, fun _ => rfl, e3, e4, e5, e6, e7, e8, e9, hB0, hK0, hK1, hK2, hK3, hK4, hT0⟩
          · exact BigFrame.quiet_move _ rfl rfl
        · refine wpOp_want rfl rfl (Oper.wp_of_quiet (C := fun w' => w' = wz) (K := fun a' => a' = frY d ga n gb m k w.heap.size u22 u23 u34 u35 u36 u37 u38 u39 u40 u41 u42 u43 u44 u45 u46 (u24) (u25) (u26) ((.int .i64 (k : Int))) (u28) (u29) (u30) (u31) (u32) (u33)) rfl ?_ ?_)
          · intro a' w' hC' hK
            subst hK
            subst hC'
            exact ⟨u24, u25, u26, (.int .i64 (k : Int)), u28, u29, u30, u31, u32, u33, by first | rfl | simp, e0, e1, e2, fun _ => rfl, e4, e5, e6, e7, e8, e9, hB0, hK0, hK1, hK2, hK3, hK4, hT0⟩
          · exact BigFrame.quiet_move _ rfl rfl
        · obtain rfl := e3 (hdep 3 (by kernel_rfl))
          have HB := Lib.hid hB0; clear hB0
          have HK0 := Lib.hid hK0; clear hK0
          have HK1 := Lib.hid hK1; clear hK1
          have HK2 := Lib.hid hK2; clear hK2
          have HK3 := Lib.hid hK3; clear hK3
          have HK4 := Lib.hid hK4; clear hK4
          refine wpOp_want rfl rfl ?_
          unfold frY
          go_simp
          exact ⟨u24, u25, u26, (.int .i64 (k : Int)), (.int .i64 (k0 : Int)), u29, u30, u31, u32, u33, by first | rfl | simp, e0, e1, e2, fun _ => rfl, fun _ => rfl, e5, e6, e7, e8, e9, HB.out, HK0.out, HK1.out, HK2.out, HK3.out, HK4.out, hT0⟩
        · obtain rfl := e2 (hdep 2 (by kernel_rfl))
          obtain rfl := e4 (hdep 4 (by kernel_rfl))
          have HB := Lib.hid hB0; clear hB0
          have HK0 := Lib.hid hK0; clear hK0
          have HK1 := Lib.hid hK1; clear hK1
          have HK2 := Lib.hid hK2; clear hK2
          have HK3 := Lib.hid hK3; clear hK3
          have HK4 := Lib.hid hK4; clear hK4
          refine wpOp_want rfl rfl ?_
          unfold frY
          go_simp
          exact ⟨u24, u25, (.slice (some ⟨gb, 0, none⟩) m m), u27, (.int .i64 (k0 : Int)), (.pointer (some ⟨gb, k0, none⟩)), u30, u31, u32, u33, by first | rfl | simp, e0, e1, fun _ => rfl, e3, fun _ => rfl, fun _ => rfl, e6, e7, e8, e9, HB.out, HK0.out, HK1.out, HK2.out, HK3.out, HK4.out, hT0⟩
        · obtain rfl := e5 (hdep 5 (by kernel_rfl))
          have cb := hK1.cell k0 (by omega)
          have HB := Lib.hid hB0; clear hB0
          have HK0 := Lib.hid hK0; clear hK0
          have HK1 := Lib.hid hK1; clear hK1
          have HK2 := Lib.hid hK2; clear hK2
          have HK3 := Lib.hid hK3; clear hK3
          have HK4 := Lib.hid hK4; clear hK4
          refine wpOp_want rfl rfl ?_
          unfold frY
          go_simp
          exact ⟨u24, u25, u26, u27, u28, (.pointer (some ⟨gb, k0, none⟩)), (.int .i64 (fb k0)), u31, u32, u33, by first | rfl | simp, e0, e1, e2, e3, e4, fun _ => rfl, fun _ => rfl, e7, e8, e9, HB.out, HK0.out, HK1.out, HK2.out, HK3.out, HK4.out, hT0⟩
        · obtain rfl := e1 (hdep 1 (by kernel_rfl))
          obtain rfl := e6 (hdep 6 (by kernel_rfl))
          have HB := Lib.hid hB0; clear hB0
          have HK0 := Lib.hid hK0; clear hK0
          have HK1 := Lib.hid hK1; clear hK1
          have HK2 := Lib.hid hK2; clear hK2
          have HK3 := Lib.hid hK3; clear hK3
          have HK4 := Lib.hid hK4; clear hK4
          refine wpOp_want rfl rfl ?_
          unfold frY
          go_simp
          refine (Hwk.out _).mono ?_
          rintro e w9 ⟨rfl, hb⟩
          go_simp
          exact ⟨u24, (.agg #[.int .i64 (d 0), .int .i64 (d 1), .int .i64 (d 2), .int .i64 (d 3), .int .i64 (d 4), .int .i64 (d 5)]), u26, u27, u28, u29, (.int .i64 (fb k0)), (.int .i64 ((vk : Nat) : Int)), u32, u33, by first | rfl | simp, e0, fun _ => rfl, e2, e3, e4, e5, fun _ => rfl, fun _ => rfl, e8, e9, HB.out.trans (hb.mono (Nat.le_trans hB.size HB.out.size)), HK0.out.up hb, HK1.out.up hb, HK2.out.up hb, HK3.out.up hb, HK4.out.up hb, At.congr (hT0.up hb) (fun k _ => rfl)⟩
        · obtain rfl := e7 (hdep 7 (by kernel_rfl))
          have HB := Lib.hid hB0; clear hB0
          have HK0 := Lib.hid hK0; clear hK0
          have HK1 := Lib.hid hK1; clear hK1
          have HK2 := Lib.hid hK2; clear hK2
          have HK3 := Lib.hid hK3; clear hK3
          have HK4 := Lib.hid hK4; clear hK4
          refine wpOp_want rfl rfl ?_
          unfold frY
          go_simp
          exact ⟨u24, u25, u26, u27, u28, u29, u30, (.int .i64 ((vk : Nat) : Int)), (v2 6 vk), u33, by first | rfl | simp, e0, e1, e2, e3, e4, e5, e6, fun _ => rfl, fun _ => rfl, e9, HB.out, HK0.out, HK1.out, HK2.out, HK3.out, HK4.out, hT0⟩
        · obtain rfl := e0 (hdep 0 (by kernel_rfl))
          obtain rfl := e8 (hdep 8 (by kernel_rfl))
          have HB := Lib.hid hB0; clear hB0
          have HK0 := Lib.hid hK0; clear hK0
          have HK1 := Lib.hid hK1; clear hK1
          have HK2 := Lib.hid hK2; clear hK2
          have HK3 := Lib.hid hK3; clear hK3
          have HK4 := Lib.hid hK4; clear hK4
          refine wpOp_want rfl rfl ?_
          unfold frY
          go_simp
          refine (Htk.out _).mono ?_
          rintro e w9 ⟨rfl, hb⟩
          go_simp
          exact ⟨(v2 x y), u25, u26, u27, u28, u29, u30, u31, (v2 6 vk), (v2 x2 y2), by first | rfl | simp, fun _ => rfl, e1, e2, e3, e4, e5, e6, e7, fun _ => rfl, fun _ => rfl, HB.out.trans (hb.mono (Nat.le_trans hB.size HB.out.size)), HK0.out.up hb, HK1.out.up hb, HK2.out.up hb, HK3.out.up hb, HK4.out.up hb, At.congr (hT0.up hb) (fun k _ => rfl)⟩
        · obtain rfl := e9 (hdep 9 (by kernel_rfl))
          have hq3' : At wz (w.heap.size + 2 + 1) 2 (fr x y) := hT0.congr (fun k _ => by show (if L 10 = true then _ else _) = _; rw [hL]; rfl)
          have o0 := hq3'.cell 0 (by omega)
          have z0 := hq3'.free 0
          have o1 := hq3'.cell 1 (by omega)
          have z1 := hq3'.free 1
          have HB := Lib.hid hB0; clear hB0
          have HK0 := Lib.hid hK0; clear hK0
          have HK1 := Lib.hid hK1; clear hK1
          have HK2 := Lib.hid hK2; clear hK2
          have HK3 := Lib.hid hK3; clear hK3
          have HK4 := Lib.hid hK4; clear hK4
          refine wpOp_want rfl rfl ?_
          unfold frY
          go_simp
          exact ⟨u24, u25, u26, u27, u28, u29, u30, u31, u32, (v2 x2 y2), by first | rfl | simp, e0, e1, e2, e3, e4, e5, e6, e7, e8, fun _ => rfl, HB.out.trans (setCells_below (p := (w.heap.size + 2 + 1)) (B := w.heap.size) (by omega) (vals 2 (fr x2 y2)) 0), HK0.out.keep (p := (w.heap.size + 2 + 1)) (by omega) (vals 2 (fr x2 y2)) 0, HK1.out.keep (p := (w.heap.size + 2 + 1)) (by omega) (vals 2 (fr x2 y2)) 0, HK2.out.keep (p := (w.heap.size + 2 + 1)) (by omega) (vals 2 (fr x2 y2)) 0, HK3.out.keep (p := (w.heap.size + 2 + 1)) (by omega) (vals 2 (fr x2 y2)) 0, HK4.out.keep (p := (w.heap.size + 2 + 1)) (by omega) (vals 2 (fr x2 y2)) 0, At.congr (hq3'.stored (fr x2 y2)) (fun k _ => rfl)⟩
      intro L az wz hL hcl hI
      obtain ⟨u24, u25, u26, u27, u28, u29, u30, u31, u32, u33, rfl, e0, e1, e2, e3, e4, e5, e6, e7, e8, e9, hB0, hK0, hK1, hK2, hK3, hK4, hT0⟩ := hI
      obtain rfl := e0 (hL 0 (by decide))
      obtain rfl := e1 (hL 1 (by decide))
      obtain rfl := e2 (hL 2 (by decide))
      obtain rfl := e3 (hL 3 (by decide))
      obtain rfl := e4 (hL 4 (by decide))
      obtain rfl := e5 (hL 5 (by decide))
      obtain rfl := e6 (hL 6 (by decide))
      obtain rfl := e7 (hL 7 (by decide))
      obtain rfl := e8 (hL 8 (by decide))
      obtain rfl := e9 (hL 9 (by decide))
      have hT : At wz (w.heap.size + 2 + 1) 2 (fr x2 y2) := hT0.congr fun k hk => by rw [if_pos (hL 10 (by decide))]
      clear hT0
      clear hcl hL
      unfold frY
      have hB := hB.trans hB0
      clear hB0 hS hO hA hC hD hR
      have hA' := hK2.drew
      have hC' := hK1.drew
      have hD' := hK0.drew
      have hS' := hK3.drew
      have hR' := hK4.drew
      have hO' := hT.drew
      have hB' := hB.drew
      clear hK0 hK1 hK2 hK3 hK4 hT hB
      go_wp2_with fail
      refine wp_region_still_tail 9 (by kernel_rfl) (by kernel_rfl) ?_
      simp only [List.take_succ_cons, List.take_zero, List.drop_succ_cons, List.drop_zero]
      repeat still_step
      refine wpStill_nil ?_
      change wpList _ _ _ _ _ wz.drew
      generalize wz.drew = W5 at *
      go_wp2_with fail
      refine (Hqk.out _ hA' hC').mono ?_
      rintro e w2 ⟨rfl, hb2⟩
      have hA2 := hA'.up hb2
      have hC2 := hC'.up hb2
      have hD2 := hD'.up hb2
      have hS2 := hS'.up hb2
      have hR2 := hR'.up hb2
      have hO2 := hO'.up hb2
      have hB2 := nx hB' hb2
      clear hA' hC' hD' hS' hR' hO' hB' hb2
      cases hmk : M k
      · have e1 := Hskip.out hmk
        obtain ⟨e1, e2⟩ := e1
        subst e1
        subst e2
        go_wp2_with fail
        go_roundw
        case rel =>
          refine' ⟨_, _, _, _, _, _, _, _, _, _, _, _, _, _, _, _, _, _, _, _, _, _, _, _, _, _, _, _, _, _, _, _, _, _, _, _, ⟨k, k + 1, by omega, by omega, ?hN, by rw [Hsx2.out, Hsy2.out]; exact hS2, by rw [Hx2.out, Hy2.out]; exact hO2, hA2, hC2, hD2, hR2, hB2⟩, ?hF⟩
          case hF => exact rfl
          case hN => go_num
        case measure => simp [intOf]; omega
      · have hpc := Lib.hid (Hhit.out hmk)
        have c0 := hS2.cell 0 (by omega)
        have c1 := hS2.cell 1 (by omega)
        have c2 := hO2.cell 0 (by omega)
        have c3 := hO2.cell 1 (by omega)
        rw [show fr (sx : Int) (sy : Int) 0 = sx from rfl] at c0
        rw [show fr (sx : Int) (sy : Int) 1 = sy from rfl] at c1
        rw [show fr (x2 : Int) (y2 : Int) 0 = x2 from rfl] at c2
        rw [show fr (x2 : Int) (y2 : Int) 1 = y2 from rfl] at c3
        go_wp2_with fail
        refine (hpc.out _).mono ?_
        rintro e w3 ⟨rfl, hb3⟩
        have hA3 := hA2.up hb3
        have hC3 := hC2.up hb3
        have hD3 := hD2.up hb3
        have hS3 := hS2.up hb3
        have hR3 := hR2.up hb3
        have hO3 := hO2.up hb3
        have hB3 := nx hB2 hb3
        have z0 := hS3.free 0
        have z1 := hS3.free 1
        have d0 := hS3.cell 0 (by omega)
        have d1 := hS3.cell 1 (by omega)
        clear hA2 hC2 hD2 hS2 hR2 hO2 hB2 hb3 c0 c1 c2 c3
        go_wp2_with fail
        go_roundw
        case rel =>
          refine' ⟨_, _, _, _, _, _, _, _, _, _, _, _, _, _, _, _, _, _, _, _, _, _, _, _, _, _, _, _, _, _, _, _, _, _, _, _, ⟨k, k + 1, by omega, by omega, ?hN, by rw [Hsx2.out, Hsy2.out]; exact fin2' hS3 sx2 sy2, by rw [Hx2.out, Hy2.out]; exact (hO3.other (p := w.heap.size + 2) (by omega) _ _).other (by omega) _ _, (hA3.other (p := w.heap.size + 2) (by omega) _ _).other (by omega) _ _, (hC3.other (p := w.heap.size + 2) (by omega) _ _).other (by omega) _ _, (hD3.other (p := w.heap.size + 2) (by omega) _ _).other (by omega) _ _, (hR3.other (p := w.heap.size + 2) (by omega) _ _).other (by omega) _ _, (hB3.setCell (p := ⟨w.heap.size + 2, 0, none⟩) (by show w.heap.size ≤ w.heap.size + 2; omega) _).setCell (p := ⟨w.heap.size + 2, 1, none⟩) (by show w.heap.size ≤ w.heap.size + 2; omega) _⟩, ?hF⟩
          case hF => exact rfl
          case hN => go_num
        case measure => simp [intOf]; omega
    · obtain rfl : k0 = K := by omega
      have hf : (decide ((k : Int) ≤ (n : Int)) = false ∧ decide (k ≤ n) = false) ∨ (decide ((k : Int) ≤ (n : Int)) = true ∧ decide (k ≤ n) = true ∧ decide ((k : Int) ≤ (m : Int)) = false ∧ decide (k ≤ m) = false) := by
        by_cases h1 : k ≤ n
        · exact .inr ⟨decide_eq_true (by omega), decide_eq_true h1, decide_eq_false (by omega), decide_eq_false (by omega)⟩
        · exact .inl ⟨decide_eq_false (by omega), decide_eq_false h1⟩
      generalize hsx : num (ss V M k0) (pr V k0) = sx at *
      generalize hsy : den (ss V M k0) (pr V k0) = sy at *
      have Hsx := Lib.hid hsx; clear hsx
      have Hsy := Lib.hid hsy; clear hsy
      have c0 := hS.cell 0 (by omega)
      have c1 := hS.cell 1 (by omega)
      rw [show fr (sx : Int) (sy : Int) 0 = sx from rfl] at c0
      rw [show fr (sx : Int) (sy : Int) 1 = sy from rfl] at c1
      have z0 := hR.free 0
      have z1 := hR.free 1
      have d0 := hR.cell 0 (by omega)
      have d1 := hR.cell 1 (by omega)
      obtain ⟨g1, g1N⟩ | ⟨g1, g1N, g2, g2N⟩ := hf
      all_goals
        go_wp2_with fail
        refine ret_cell (b := w.heap.size + 1) (n := 2) (f := fr sx sy) Try.results71 rfl Try.underlying29 (by kernel_rfl) (fin2' hR _ _) rfl ⟨by rw [Hsx.out, Hsy.out]; rfl, ?_⟩
        exact (hB.setCell (p := ⟨w.heap.size + 1, 0, none⟩) (by show w.heap.size ≤ w.heap.size + 1; omega) _).setCell (p := ⟨w.heap.size + 1, 1, none⟩) (by show w.heap.size ≤ w.heap.size + 1; omega) _


end OvS
end Go.Proofs.Ytdodokeebmdceaa
