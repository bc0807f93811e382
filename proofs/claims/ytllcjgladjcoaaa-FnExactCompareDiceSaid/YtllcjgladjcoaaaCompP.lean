/-
  FnExactCompareDice: for every two arrays of six numbers the law returns true, and both read afterwards as they read before. No condition.
-/
import Derived.Test.YtllcjgladjcoaaaRows
import Derived.Test.YtllcjgladjcoaaaAnyR
import Derived.Test.YtllcjgladjcoaaaQuietD
import Derived.Test.YtllcjgladjcoaaaCompW
import Derived.Test.YtllcjgladjcoaaaWaysW
import Derived.Test.YtllcjgladjcoaaaCompS
import Derived.Test.YtllcjgladjcoaaaDuel
import Derived.Test.YtllcjgladjcoaaaDieW
import Derived.Test.YtllcjgladjcoaaaSortW
import Derived.Test.YtllcjgladjcoaaaOpenD
import Derived.WalkKit
import Derived.WalkLawsBesides
import Derived.WalkSpells
import Derived.ProofKit
import Derived.OpenShut
import Derived.Deep.RegionWith
import Derived.Deep.Cut
import Derived.Deep.CutRange
import Derived.Deep.DeepCutAuto
import Derived.Deep.QuietTactic
import Derived.BigQuiet
namespace Go.Proofs.Ytllcjgladjcoaaa
open Go.ChangeShapes Go.WideShapes Go.ChangeAt Go.RowKit
open Go.ChangeMaps (open_string shut_string)

namespace CompP
open Dice Arr OpenD DieW SortW Duel CompW QuietD AnyR

/-- What a region that lays one new block keeps: all older blocks, and, once it is laid, the block. -/
def Cl (W : World) (u : Value) (l8 l9 : Bool) (f : Nat → Int) (w : World) : Prop :=
  Below W.heap.size W w ∧ (l8 = true → ∃ q, u = .pointer (some ⟨q, 0, none⟩) ∧ W.heap.size ≤ q ∧ At w q 3 (fun k => if l9 = true then f k else 0))
theorem Cl.start (W : World) (u : Value) (f : Nat → Int) : Cl W u false false f W := ⟨Below.refl _ _, fun h => by cases h⟩
theorem Cl.up {W w w' : World} {u : Value} {l8 l9 : Bool} {f : Nat → Int} (h : Cl W u l8 l9 f w) (hb : Below w.heap.size w w') : Cl W u l8 l9 f w' :=
  ⟨h.1.trans (hb.mono h.1.size), fun h8 => by obtain ⟨q, e, hq, hA⟩ := h.2 h8; exact ⟨q, e, hq, hA.up hb⟩⟩
theorem Cl.alloc {W w : World} {u : Value} {l8 l9 : Bool} {f : Nat → Int} (h : Cl W u l8 l9 f w) (h9 : l9 = false) : Cl W (.pointer (some ⟨w.heap.size, 0, none⟩)) true l9 f (w.alloc (.cells #[.int .i64 0, .int .i64 0, .int .i64 0] 23)) := by
  subst h9
  exact ⟨h.1.alloc h.1.size _, fun _ => ⟨_, rfl, h.1.size, At.new3 w 23 rfl⟩⟩
theorem Cl.stored {W w : World} {q : Nat} {l8 l9 : Bool} {u : Value} {f : Nat → Int} (h : Cl W u l8 l9 f w) (hq : W.heap.size ≤ q) (hA : At w q 3 (fun _ => 0)) : Cl W (.pointer (some ⟨q, 0, none⟩)) l8 true f (w.setCells q 0 (vals 3 f)) :=
  ⟨h.1.trans (setCells_below hq (vals 3 f) 0), fun _ => ⟨q, rfl, hq, hA.stored f⟩⟩
def frA (H : Nat) (d g : Nat → Int) (u5 u6 u9 u10 u11 u12 u13 u14 u15 u16 : Value) : Act := ⟨#[.agg #[.int .i64 (d 0), .int .i64 (d 1), .int .i64 (d 2), .int .i64 (d 3), .int .i64 (d 4), .int .i64 (d 5)], .agg #[.int .i64 (g 0), .int .i64 (g 1), .int .i64 (g 2), .int .i64 (g 3), .int .i64 (g 4), .int .i64 (g 5)], .pointer (some ⟨H, 0, none⟩), .pointer (some ⟨H + 1, 0, none⟩), .bool false, u5, u6, undef, undef, u9, u10, u11, u12, u13, u14, u15, u16, undef, undef, undef, undef, undef, undef, undef, undef, undef, undef, undef, undef, undef, undef, undef, undef, undef], []⟩
def frB (H q0 : Nat) (d g : Nat → Int) (b : Bool) (z9 z10 z11 z12 z13 z14 z15 z16 : Value) (u7 u8 u17 u18 u19 u20 u21 u22 u23 u24 : Value) : Act := ⟨#[.agg #[.int .i64 (d 0), .int .i64 (d 1), .int .i64 (d 2), .int .i64 (d 3), .int .i64 (d 4), .int .i64 (d 5)], .agg #[.int .i64 (g 0), .int .i64 (g 1), .int .i64 (g 2), .int .i64 (g 3), .int .i64 (g 4), .int .i64 (g 5)], .pointer (some ⟨H, 0, none⟩), .pointer (some ⟨H + 1, 0, none⟩), .bool false, .pointer (some ⟨q0, 0, none⟩), .bool b, u7, u8, z9, z10, z11, z12, z13, z14, z15, z16, u17, u18, u19, u20, u21, u22, u23, u24, undef, undef, undef, undef, undef, undef, undef, undef, undef], []⟩
set_option maxRecDepth 100000 in
set_option maxHeartbeats 8000000 in
theorem eqA3_any (f : Nat → Int) (w : World) :
    Calls Try.prog 18 #[tri f, tri f] w fun e w' => e = .returned (.bool true) ∧ Below w.heap.size w w' := by
  unfold tri
  go_enter Try.func18, Try.ntmps18
  go_wp2_with fail
  go_loopw [5] (fun i wr => ∃ k : Nat, k ≤ 3 ∧ i = .int .i64 k ∧ Below w.heap.size w wr ∧ At wr w.heap.size 3 f ∧ At wr (w.heap.size + 1) 3 f) (fun i _ => 3 - (intOf i).toNat)
  case atStart => exact ⟨0, by omega, rfl, na (na (n0 w) _) _, (WaysW.At.new3f w _ f rfl).past _, WaysW.At.new3f _ _ f (by rw [size_alloc])⟩
  case round =>
    obtain ⟨k, hk, rfl, hb, h1, h2⟩ := hrel
    by_cases hlt : k < 3
    · have c1 := h1.cell k hlt
      have c2 := h2.cell k hlt
      go_wp2_with fail
      go_region
      all_goals
        go_wp2_with fail
        go_roundw
        case rel => exact ⟨k + 1, by omega, by go_num, hb.drew, h1.drew, h2.drew⟩
        case measure => simp [intOf]; omega
    · obtain rfl : k = 3 := by omega
      go_wp2_with fail
      go_ret
      exact ⟨rfl, hb⟩
set_option maxRecDepth 100000 in
set_option maxHeartbeats 40000000 in
theorem law_any (d g : Nat → Int) (w : World) :
    Calls Try.prog 3 #[dv d, dv g] w fun e w' => e = .returned (.bool true) ∧ Below w.heap.size w w' := by
  have ht := toA6_any
  obtain ⟨f, ho, _⟩ := outC_split d g
  have hs := specCompare_any d g
  have hi := implCompare_any d g
  rw [ho] at hs hi
  have hq := eqA3_any f
  generalize okD d g = b at hs hi
  clear ho
  unfold tri at hs hi hq
  have Ht := Lib.hid ht; clear ht
  have Hs := Lib.hid hs; clear hs
  have Hi := Lib.hid hi; clear hi
  have Hq := Lib.hid hq; clear hq
  have hD := (At.new6 w d 22 rfl).past (sixO g 22)
  have hG := At.new6 (w.alloc (sixO d 22)) g 22 (b := w.heap.size + 1) (by rw [size_alloc])
  have hB := na (na (n0 w) (sixO d 22)) (sixO g 22)
  unfold dv
  go_enter Try.func3, Try.ntmps3
  go_upto_region 1 with (fail)
  generalize (w.alloc (sixO d 22)).alloc (sixO g 22) = W0 at hD hG hB ⊢
  replace hB := hB.drew
  replace hD := hD.drew
  replace hG := hG.drew
  go_cut [5, 6] from 9 to 16 (fun s5 s6 wx => ∃ q, s5 = .pointer (some ⟨q, 0, none⟩) ∧ s6 = .bool b ∧ w.heap.size + 1 < q ∧ At wx q 3 f ∧ Below w.heap.size w wx ∧ At wx w.heap.size 6 d ∧ At wx (w.heap.size + 1) 6 g)
  case first =>
    have hl2 := hG.lt
    have hBs := hB.size
    refine wp_region_inv (I := fun L a w' => ∃ u5 u6 u9 u10 u11 u12 u13 u14 u15 u16 : Value, a = frA w.heap.size d g u5 u6 u9 u10 u11 u12 u13 u14 u15 u16 ∧ (L 0 = true → u10 = (dv d)) ∧ (L 1 = true → u11 = (dv d)) ∧ (L 2 = true → u12 = (dv g)) ∧ (L 3 = true → u13 = (dv g)) ∧ (L 4 = true → u14 = (.tuple #[.agg #[.int .i64 (f 0), .int .i64 (f 1), .int .i64 (f 2)], .bool b])) ∧ (L 5 = true → u9 = (.tuple #[.agg #[.int .i64 (f 0), .int .i64 (f 1), .int .i64 (f 2)], .bool b])) ∧ (L 6 = true → u15 = (.agg #[.int .i64 (f 0), .int .i64 (f 1), .int .i64 (f 2)])) ∧ (L 7 = true → u16 = (.bool b)) ∧ (L 10 = true → u6 = (.bool b)) ∧ (L 9 = true → L 8 = true) ∧ Cl W0.drew u5 (L 8) (L 9) f w') (by kernel_rfl) (by kernel_rfl) ?_ ?_ ?_
    · exact ⟨_, _, _, _, _, _, _, _, _, _, rfl, (fun h => by cases h), (fun h => by cases h), (fun h => by cases h), (fun h => by cases h), (fun h => by cases h), (fun h => by cases h), (fun h => by cases h), (fun h => by cases h), (fun h => by cases h), (fun h => by cases h), Cl.start W0.drew _ _⟩
    · intro L a wr i hi hL hdep hI
      obtain ⟨u5, u6, u9, u10, u11, u12, u13, u14, u15, u16, rfl, hla, hca, hlb, hcb, hcx, hmv, he0, he1, has, h89, hC⟩ := hI
      have hi' : i < 11 := hi
      clear hi
      obtain rfl | rfl | rfl | rfl | rfl | rfl | rfl | rfl | rfl | rfl | rfl : i = 0 ∨ i = 1 ∨ i = 2 ∨ i = 3 ∨ i = 4 ∨ i = 5 ∨ i = 6 ∨ i = 7 ∨ i = 8 ∨ i = 9 ∨ i = 10 := by omega
      · refine wpOp_want rfl rfl (Oper.wp_of_quiet (C := Cl W0.drew u5 (L 8) (L 9) f) (K := fun a' => a' = frA w.heap.size d g u5 u6 u9 (dv d) u11 u12 u13 u14 u15 u16) hC ?_ ?_)
        · intro a' w' hC' hK
          subst hK
          exact ⟨u5, u6, u9, (dv d), u11, u12, u13, u14, u15, u16, rfl, fun _ => rfl, hca, hlb, hcb, hcx, hmv, he0, he1, has, h89, hC'⟩
        · exact quiet_ld6 _ rfl rfl (fun _ h => hD.up h.1) rfl
      · obtain rfl := hla (hdep 0 (by kernel_rfl))
        refine wpOp_want rfl rfl (Oper.wp_of_quiet (C := Cl W0.drew u5 (L 8) (L 9) f) (K := fun a' => a' = frA w.heap.size d g u5 u6 u9 (dv d) (dv d) u12 u13 u14 u15 u16) hC ?_ ?_)
        · intro a' w' hC' hK
          subst hK
          exact ⟨u5, u6, u9, (dv d), (dv d), u12, u13, u14, u15, u16, rfl, fun _ => rfl, fun _ => rfl, hlb, hcb, hcx, hmv, he0, he1, has, h89, hC'⟩
        · refine ⟨(dv d), fun w' hw' => ?_, rfl⟩
          have Hw := Lib.hid hw'; clear hw'
          unfold frA
          go_simp
          refine (Ht.out d _).mono ?_
          rintro e w5 ⟨rfl, hb⟩
          exact ⟨rfl, Hw.out.up hb⟩
      · refine wpOp_want rfl rfl (Oper.wp_of_quiet (C := Cl W0.drew u5 (L 8) (L 9) f) (K := fun a' => a' = frA w.heap.size d g u5 u6 u9 u10 u11 (dv g) u13 u14 u15 u16) hC ?_ ?_)
        · intro a' w' hC' hK
          subst hK
          exact ⟨u5, u6, u9, u10, u11, (dv g), u13, u14, u15, u16, rfl, hla, hca, fun _ => rfl, hcb, hcx, hmv, he0, he1, has, h89, hC'⟩
        · exact quiet_ld6 _ rfl rfl (fun _ h => hG.up h.1) rfl
      · obtain rfl := hlb (hdep 2 (by kernel_rfl))
        refine wpOp_want rfl rfl (Oper.wp_of_quiet (C := Cl W0.drew u5 (L 8) (L 9) f) (K := fun a' => a' = frA w.heap.size d g u5 u6 u9 u10 u11 (dv g) (dv g) u14 u15 u16) hC ?_ ?_)
        · intro a' w' hC' hK
          subst hK
          exact ⟨u5, u6, u9, u10, u11, (dv g), (dv g), u14, u15, u16, rfl, hla, hca, fun _ => rfl, fun _ => rfl, hcx, hmv, he0, he1, has, h89, hC'⟩
        · refine ⟨(dv g), fun w' hw' => ?_, rfl⟩
          have Hw := Lib.hid hw'; clear hw'
          unfold frA
          go_simp
          refine (Ht.out g _).mono ?_
          rintro e w5 ⟨rfl, hb⟩
          exact ⟨rfl, Hw.out.up hb⟩
      · obtain rfl := hca (hdep 1 (by kernel_rfl))
        obtain rfl := hcb (hdep 3 (by kernel_rfl))
        refine wpOp_want rfl rfl (Oper.wp_of_quiet (C := Cl W0.drew u5 (L 8) (L 9) f) (K := fun a' => a' = frA w.heap.size d g u5 u6 u9 u10 (dv d) u12 (dv g) (.tuple #[.agg #[.int .i64 (f 0), .int .i64 (f 1), .int .i64 (f 2)], .bool b]) u15 u16) hC ?_ ?_)
        · intro a' w' hC' hK
          subst hK
          exact ⟨u5, u6, u9, u10, (dv d), u12, (dv g), (.tuple #[.agg #[.int .i64 (f 0), .int .i64 (f 1), .int .i64 (f 2)], .bool b]), u15, u16, rfl, hla, fun _ => rfl, hlb, fun _ => rfl, fun _ => rfl, hmv, he0, he1, has, h89, hC'⟩
        · refine ⟨(.tuple #[.agg #[.int .i64 (f 0), .int .i64 (f 1), .int .i64 (f 2)], .bool b]), fun w' hw' => ?_, rfl⟩
          have Hw := Lib.hid hw'; clear hw'
          unfold frA
          go_simp
          refine (Hs.out _).mono ?_
          rintro e w5 ⟨rfl, hb⟩
          exact ⟨rfl, Hw.out.up hb⟩
      · obtain rfl := hcx (hdep 4 (by kernel_rfl))
        refine wpOp_want rfl rfl (Oper.wp_of_quiet (C := Cl W0.drew u5 (L 8) (L 9) f) (K := fun a' => a' = frA w.heap.size d g u5 u6 (.tuple #[.agg #[.int .i64 (f 0), .int .i64 (f 1), .int .i64 (f 2)], .bool b]) u10 u11 u12 u13 (.tuple #[.agg #[.int .i64 (f 0), .int .i64 (f 1), .int .i64 (f 2)], .bool b]) u15 u16) hC ?_ ?_)
        · intro a' w' hC' hK
          subst hK
          exact ⟨u5, u6, (.tuple #[.agg #[.int .i64 (f 0), .int .i64 (f 1), .int .i64 (f 2)], .bool b]), u10, u11, u12, u13, (.tuple #[.agg #[.int .i64 (f 0), .int .i64 (f 1), .int .i64 (f 2)], .bool b]), u15, u16, rfl, hla, hca, hlb, hcb, fun _ => rfl, fun _ => rfl, he0, he1, has, h89, hC'⟩
        · exact BigFrame.quiet_move _ rfl rfl
      · obtain rfl := hmv (hdep 5 (by kernel_rfl))
        refine wpOp_want rfl rfl (Oper.wp_of_quiet (C := Cl W0.drew u5 (L 8) (L 9) f) (K := fun a' => a' = frA w.heap.size d g u5 u6 (.tuple #[.agg #[.int .i64 (f 0), .int .i64 (f 1), .int .i64 (f 2)], .bool b]) u10 u11 u12 u13 u14 (.agg #[.int .i64 (f 0), .int .i64 (f 1), .int .i64 (f 2)]) u16) hC ?_ ?_)
        · intro a' w' hC' hK
          subst hK
          exact ⟨u5, u6, (.tuple #[.agg #[.int .i64 (f 0), .int .i64 (f 1), .int .i64 (f 2)], .bool b]), u10, u11, u12, u13, u14, (.agg #[.int .i64 (f 0), .int .i64 (f 1), .int .i64 (f 2)]), u16, rfl, hla, hca, hlb, hcb, hcx, fun _ => rfl, fun _ => rfl, he1, has, h89, hC'⟩
        · exact ⟨(.agg #[.int .i64 (f 0), .int .i64 (f 1), .int .i64 (f 2)]), fun w' hw' => ⟨rfl, rfl⟩, rfl⟩
      · obtain rfl := hmv (hdep 5 (by kernel_rfl))
        refine wpOp_want rfl rfl (Oper.wp_of_quiet (C := Cl W0.drew u5 (L 8) (L 9) f) (K := fun a' => a' = frA w.heap.size d g u5 u6 (.tuple #[.agg #[.int .i64 (f 0), .int .i64 (f 1), .int .i64 (f 2)], .bool b]) u10 u11 u12 u13 u14 u15 (.bool b)) hC ?_ ?_)
        · intro a' w' hC' hK
          subst hK
          exact ⟨u5, u6, (.tuple #[.agg #[.int .i64 (f 0), .int .i64 (f 1), .int .i64 (f 2)], .bool b]), u10, u11, u12, u13, u14, u15, (.bool b), rfl, hla, hca, hlb, hcb, hcx, fun _ => rfl, he0, fun _ => rfl, has, h89, hC'⟩
        · exact ⟨(.bool b), fun w' hw' => ⟨rfl, rfl⟩, rfl⟩
      · have h9 : L 9 = false := by cases h9 : L 9; rfl; exact absurd (h89 h9) (by rw [hL]; decide)
        refine wpOp_want rfl rfl ?_
        show Oper.wp _ _ _ _ _ _
        unfold Oper.wp execOp
        go_simp
        exact ⟨.pointer (some ⟨wr.heap.size, 0, none⟩), u6, u9, u10, u11, u12, u13, u14, u15, u16, rfl, hla, hca, hlb, hcb, hcx, hmv, he0, he1, has, fun _ => rfl, hC.alloc h9⟩
      · obtain rfl := he0 (hdep 6 (by kernel_rfl))
        obtain ⟨q, hq1, hq2, hq3⟩ := hC.2 (hdep 8 (by kernel_rfl))
        subst hq1
        rw [hL] at hq3
        have hq3' : At wr q 3 (fun _ => 0) := hq3
        have hlt := hq3'.lt
        obtain ⟨o0, o1, o2⟩ := three hq3'
        obtain ⟨z0, z1, z2⟩ := free3 hq3'
        refine wpOp_want rfl rfl (Oper.wp_mono (K := fun a' w' => a' = frA w.heap.size d g (.pointer (some ⟨q, 0, none⟩)) u6 u9 u10 u11 u12 u13 u14 (.agg #[.int .i64 (f 0), .int .i64 (f 1), .int .i64 (f 2)]) u16 ∧ w' = wr.setCells q 0 (vals 3 f)) ?_ ?_)
        · rintro a' w' ⟨rfl, rfl⟩
          exact ⟨.pointer (some ⟨q, 0, none⟩), u6, u9, u10, u11, u12, u13, u14, (.agg #[.int .i64 (f 0), .int .i64 (f 1), .int .i64 (f 2)]), u16, rfl, hla, hca, hlb, hcb, hcx, hmv, fun _ => rfl, he1, has, fun _ => hdep 8 (by kernel_rfl), hC.stored hq2 hq3'⟩
        · unfold Oper.wp execOp frA
          go_simp
          first | exact ⟨rfl, rfl⟩ | rfl
      · obtain rfl := he1 (hdep 7 (by kernel_rfl))
        refine wpOp_want rfl rfl (Oper.wp_of_quiet (C := Cl W0.drew u5 (L 8) (L 9) f) (K := fun a' => a' = frA w.heap.size d g u5 (.bool b) u9 u10 u11 u12 u13 u14 u15 (.bool b)) hC ?_ ?_)
        · intro a' w' hC' hK
          subst hK
          exact ⟨u5, (.bool b), u9, u10, u11, u12, u13, u14, u15, (.bool b), rfl, hla, hca, hlb, hcb, hcx, hmv, he0, fun _ => rfl, fun _ => rfl, h89, hC'⟩
        · exact BigFrame.quiet_assign _ rfl rfl
    · intro L a wr hL hI
      obtain ⟨u5, u6, u9, u10, u11, u12, u13, u14, u15, u16, rfl, hla, hca, hlb, hcb, hcx, hmv, he0, he1, has, h89, hC⟩ := hI
      obtain rfl := hla (hL 0 (by decide))
      obtain rfl := hca (hL 1 (by decide))
      obtain rfl := hlb (hL 2 (by decide))
      obtain rfl := hcb (hL 3 (by decide))
      obtain rfl := hcx (hL 4 (by decide))
      obtain rfl := hmv (hL 5 (by decide))
      obtain rfl := he0 (hL 6 (by decide))
      obtain rfl := he1 (hL 7 (by decide))
      obtain rfl := has (hL 10 (by decide))
      obtain ⟨q, rfl, hq2, hq3⟩ := hC.2 (hL 8 (by decide))
      have hq4 : At wr q 3 f := hq3.congr fun k hk => by rw [if_pos (hL 9 (by decide))]
      have hBw := hC.1
      clear hq3 hC h89
      unfold frA
      go_wp2_with fail
      go_meet
      case rel => exact ⟨q, rfl, rfl, by omega, hq4, hB.trans (hBw.mono hBs), hD.up hBw, hG.up hBw⟩
  case rest =>
    clear hB hD hG
    obtain ⟨q0, rfl, rfl, hq0, hE, hB, hD, hG⟩ := hcut
    go_upto_region 2 with (fail)
    replace hB := hB.drew
    replace hD := hD.drew
    replace hG := hG.drew
    replace hE := hE.drew
    have hl2 := hG.lt
    have hBs := hB.size
    refine wp_region_inv (I := fun L a w' => ∃ u7 u8 u17 u18 u19 u20 u21 u22 u23 u24 : Value, a = frB w.heap.size q0 d g b u9 u10 u11 u12 u13 u14 u15 u16 u7 u8 u17 u18 u19 u20 u21 u22 u23 u24 ∧ (L 0 = true → u18 = (dv d)) ∧ (L 1 = true → u19 = (dv d)) ∧ (L 2 = true → u20 = (dv g)) ∧ (L 3 = true → u21 = (dv g)) ∧ (L 4 = true → u22 = (.tuple #[.agg #[.int .i64 (f 0), .int .i64 (f 1), .int .i64 (f 2)], .bool b])) ∧ (L 5 = true → u17 = (.tuple #[.agg #[.int .i64 (f 0), .int .i64 (f 1), .int .i64 (f 2)], .bool b])) ∧ (L 6 = true → u23 = (.agg #[.int .i64 (f 0), .int .i64 (f 1), .int .i64 (f 2)])) ∧ (L 7 = true → u24 = (.bool b)) ∧ (L 10 = true → u8 = (.bool b)) ∧ (L 9 = true → L 8 = true) ∧ Cl wc.drew u7 (L 8) (L 9) f w') (by kernel_rfl) (by kernel_rfl) ?_ ?_ ?_
    · exact ⟨_, _, _, _, _, _, _, _, _, _, rfl, (fun h => by cases h), (fun h => by cases h), (fun h => by cases h), (fun h => by cases h), (fun h => by cases h), (fun h => by cases h), (fun h => by cases h), (fun h => by cases h), (fun h => by cases h), (fun h => by cases h), Cl.start wc.drew _ _⟩
    · intro L a wr i hi hL hdep hI
      obtain ⟨u7, u8, u17, u18, u19, u20, u21, u22, u23, u24, rfl, hla, hca, hlb, hcb, hcx, hmv, he0, he1, has, h89, hC⟩ := hI
      have hi' : i < 11 := hi
      clear hi
      obtain rfl | rfl | rfl | rfl | rfl | rfl | rfl | rfl | rfl | rfl | rfl : i = 0 ∨ i = 1 ∨ i = 2 ∨ i = 3 ∨ i = 4 ∨ i = 5 ∨ i = 6 ∨ i = 7 ∨ i = 8 ∨ i = 9 ∨ i = 10 := by omega
      · refine wpOp_want rfl rfl (Oper.wp_of_quiet (C := Cl wc.drew u7 (L 8) (L 9) f) (K := fun a' => a' = frB w.heap.size q0 d g b u9 u10 u11 u12 u13 u14 u15 u16 u7 u8 u17 (dv d) u19 u20 u21 u22 u23 u24) hC ?_ ?_)
        · intro a' w' hC' hK
          subst hK
          exact ⟨u7, u8, u17, (dv d), u19, u20, u21, u22, u23, u24, rfl, fun _ => rfl, hca, hlb, hcb, hcx, hmv, he0, he1, has, h89, hC'⟩
        · exact quiet_ld6 _ rfl rfl (fun _ h => hD.up h.1) rfl
      · obtain rfl := hla (hdep 0 (by kernel_rfl))
        refine wpOp_want rfl rfl (Oper.wp_of_quiet (C := Cl wc.drew u7 (L 8) (L 9) f) (K := fun a' => a' = frB w.heap.size q0 d g b u9 u10 u11 u12 u13 u14 u15 u16 u7 u8 u17 (dv d) (dv d) u20 u21 u22 u23 u24) hC ?_ ?_)
        · intro a' w' hC' hK
          subst hK
          exact ⟨u7, u8, u17, (dv d), (dv d), u20, u21, u22, u23, u24, rfl, fun _ => rfl, fun _ => rfl, hlb, hcb, hcx, hmv, he0, he1, has, h89, hC'⟩
        · refine ⟨(dv d), fun w' hw' => ?_, rfl⟩
          have Hw := Lib.hid hw'; clear hw'
          unfold frB
          go_simp
          refine (Ht.out d _).mono ?_
          rintro e w5 ⟨rfl, hb⟩
          exact ⟨rfl, Hw.out.up hb⟩
      · refine wpOp_want rfl rfl (Oper.wp_of_quiet (C := Cl wc.drew u7 (L 8) (L 9) f) (K := fun a' => a' = frB w.heap.size q0 d g b u9 u10 u11 u12 u13 u14 u15 u16 u7 u8 u17 u18 u19 (dv g) u21 u22 u23 u24) hC ?_ ?_)
        · intro a' w' hC' hK
          subst hK
          exact ⟨u7, u8, u17, u18, u19, (dv g), u21, u22, u23, u24, rfl, hla, hca, fun _ => rfl, hcb, hcx, hmv, he0, he1, has, h89, hC'⟩
        · exact quiet_ld6 _ rfl rfl (fun _ h => hG.up h.1) rfl
      · obtain rfl := hlb (hdep 2 (by kernel_rfl))
        refine wpOp_want rfl rfl (Oper.wp_of_quiet (C := Cl wc.drew u7 (L 8) (L 9) f) (K := fun a' => a' = frB w.heap.size q0 d g b u9 u10 u11 u12 u13 u14 u15 u16 u7 u8 u17 u18 u19 (dv g) (dv g) u22 u23 u24) hC ?_ ?_)
        · intro a' w' hC' hK
          subst hK
          exact ⟨u7, u8, u17, u18, u19, (dv g), (dv g), u22, u23, u24, rfl, hla, hca, fun _ => rfl, fun _ => rfl, hcx, hmv, he0, he1, has, h89, hC'⟩
        · refine ⟨(dv g), fun w' hw' => ?_, rfl⟩
          have Hw := Lib.hid hw'; clear hw'
          unfold frB
          go_simp
          refine (Ht.out g _).mono ?_
          rintro e w5 ⟨rfl, hb⟩
          exact ⟨rfl, Hw.out.up hb⟩
      · obtain rfl := hca (hdep 1 (by kernel_rfl))
        obtain rfl := hcb (hdep 3 (by kernel_rfl))
        refine wpOp_want rfl rfl (Oper.wp_of_quiet (C := Cl wc.drew u7 (L 8) (L 9) f) (K := fun a' => a' = frB w.heap.size q0 d g b u9 u10 u11 u12 u13 u14 u15 u16 u7 u8 u17 u18 (dv d) u20 (dv g) (.tuple #[.agg #[.int .i64 (f 0), .int .i64 (f 1), .int .i64 (f 2)], .bool b]) u23 u24) hC ?_ ?_)
        · intro a' w' hC' hK
          subst hK
          exact ⟨u7, u8, u17, u18, (dv d), u20, (dv g), (.tuple #[.agg #[.int .i64 (f 0), .int .i64 (f 1), .int .i64 (f 2)], .bool b]), u23, u24, rfl, hla, fun _ => rfl, hlb, fun _ => rfl, fun _ => rfl, hmv, he0, he1, has, h89, hC'⟩
        · refine ⟨(.tuple #[.agg #[.int .i64 (f 0), .int .i64 (f 1), .int .i64 (f 2)], .bool b]), fun w' hw' => ?_, rfl⟩
          have Hw := Lib.hid hw'; clear hw'
          unfold frB
          go_simp
          refine (Hi.out _).mono ?_
          rintro e w5 ⟨rfl, hb⟩
          exact ⟨rfl, Hw.out.up hb⟩
      · obtain rfl := hcx (hdep 4 (by kernel_rfl))
        refine wpOp_want rfl rfl (Oper.wp_of_quiet (C := Cl wc.drew u7 (L 8) (L 9) f) (K := fun a' => a' = frB w.heap.size q0 d g b u9 u10 u11 u12 u13 u14 u15 u16 u7 u8 (.tuple #[.agg #[.int .i64 (f 0), .int .i64 (f 1), .int .i64 (f 2)], .bool b]) u18 u19 u20 u21 (.tuple #[.agg #[.int .i64 (f 0), .int .i64 (f 1), .int .i64 (f 2)], .bool b]) u23 u24) hC ?_ ?_)
        · intro a' w' hC' hK
          subst hK
          exact ⟨u7, u8, (.tuple #[.agg #[.int .i64 (f 0), .int .i64 (f 1), .int .i64 (f 2)], .bool b]), u18, u19, u20, u21, (.tuple #[.agg #[.int .i64 (f 0), .int .i64 (f 1), .int .i64 (f 2)], .bool b]), u23, u24, rfl, hla, hca, hlb, hcb, fun _ => rfl, fun _ => rfl, he0, he1, has, h89, hC'⟩
        · exact BigFrame.quiet_move _ rfl rfl
      · obtain rfl := hmv (hdep 5 (by kernel_rfl))
        refine wpOp_want rfl rfl (Oper.wp_of_quiet (C := Cl wc.drew u7 (L 8) (L 9) f) (K := fun a' => a' = frB w.heap.size q0 d g b u9 u10 u11 u12 u13 u14 u15 u16 u7 u8 (.tuple #[.agg #[.int .i64 (f 0), .int .i64 (f 1), .int .i64 (f 2)], .bool b]) u18 u19 u20 u21 u22 (.agg #[.int .i64 (f 0), .int .i64 (f 1), .int .i64 (f 2)]) u24) hC ?_ ?_)
        · intro a' w' hC' hK
          subst hK
          exact ⟨u7, u8, (.tuple #[.agg #[.int .i64 (f 0), .int .i64 (f 1), .int .i64 (f 2)], .bool b]), u18, u19, u20, u21, u22, (.agg #[.int .i64 (f 0), .int .i64 (f 1), .int .i64 (f 2)]), u24, rfl, hla, hca, hlb, hcb, hcx, fun _ => rfl, fun _ => rfl, he1, has, h89, hC'⟩
        · exact ⟨(.agg #[.int .i64 (f 0), .int .i64 (f 1), .int .i64 (f 2)]), fun w' hw' => ⟨rfl, rfl⟩, rfl⟩
      · obtain rfl := hmv (hdep 5 (by kernel_rfl))
        refine wpOp_want rfl rfl (Oper.wp_of_quiet (C := Cl wc.drew u7 (L 8) (L 9) f) (K := fun a' => a' = frB w.heap.size q0 d g b u9 u10 u11 u12 u13 u14 u15 u16 u7 u8 (.tuple #[.agg #[.int .i64 (f 0), .int .i64 (f 1), .int .i64 (f 2)], .bool b]) u18 u19 u20 u21 u22 u23 (.bool b)) hC ?_ ?_)
        · intro a' w' hC' hK
          subst hK
          exact ⟨u7, u8, (.tuple #[.agg #[.int .i64 (f 0), .int .i64 (f 1), .int .i64 (f 2)], .bool b]), u18, u19, u20, u21, u22, u23, (.bool b), rfl, hla, hca, hlb, hcb, hcx, fun _ => rfl, he0, fun _ => rfl, has, h89, hC'⟩
        · exact ⟨(.bool b), fun w' hw' => ⟨rfl, rfl⟩, rfl⟩
      · have h9 : L 9 = false := by cases h9 : L 9; rfl; exact absurd (h89 h9) (by rw [hL]; decide)
        refine wpOp_want rfl rfl ?_
        show Oper.wp _ _ _ _ _ _
        unfold Oper.wp execOp
        go_simp
        exact ⟨.pointer (some ⟨wr.heap.size, 0, none⟩), u8, u17, u18, u19, u20, u21, u22, u23, u24, rfl, hla, hca, hlb, hcb, hcx, hmv, he0, he1, has, fun _ => rfl, hC.alloc h9⟩
      · obtain rfl := he0 (hdep 6 (by kernel_rfl))
        obtain ⟨q, hq1, hq2, hq3⟩ := hC.2 (hdep 8 (by kernel_rfl))
        subst hq1
        rw [hL] at hq3
        have hq3' : At wr q 3 (fun _ => 0) := hq3
        have hlt := hq3'.lt
        obtain ⟨o0, o1, o2⟩ := three hq3'
        obtain ⟨z0, z1, z2⟩ := free3 hq3'
        refine wpOp_want rfl rfl (Oper.wp_mono (K := fun a' w' => a' = frB w.heap.size q0 d g b u9 u10 u11 u12 u13 u14 u15 u16 (.pointer (some ⟨q, 0, none⟩)) u8 u17 u18 u19 u20 u21 u22 (.agg #[.int .i64 (f 0), .int .i64 (f 1), .int .i64 (f 2)]) u24 ∧ w' = wr.setCells q 0 (vals 3 f)) ?_ ?_)
        · rintro a' w' ⟨rfl, rfl⟩
          exact ⟨.pointer (some ⟨q, 0, none⟩), u8, u17, u18, u19, u20, u21, u22, (.agg #[.int .i64 (f 0), .int .i64 (f 1), .int .i64 (f 2)]), u24, rfl, hla, hca, hlb, hcb, hcx, hmv, fun _ => rfl, he1, has, fun _ => hdep 8 (by kernel_rfl), hC.stored hq2 hq3'⟩
        · unfold Oper.wp execOp frB
          go_simp
          first | exact ⟨rfl, rfl⟩ | rfl
      · obtain rfl := he1 (hdep 7 (by kernel_rfl))
        refine wpOp_want rfl rfl (Oper.wp_of_quiet (C := Cl wc.drew u7 (L 8) (L 9) f) (K := fun a' => a' = frB w.heap.size q0 d g b u9 u10 u11 u12 u13 u14 u15 u16 u7 (.bool b) u17 u18 u19 u20 u21 u22 u23 (.bool b)) hC ?_ ?_)
        · intro a' w' hC' hK
          subst hK
          exact ⟨u7, (.bool b), u17, u18, u19, u20, u21, u22, u23, (.bool b), rfl, hla, hca, hlb, hcb, hcx, hmv, he0, fun _ => rfl, fun _ => rfl, h89, hC'⟩
        · exact BigFrame.quiet_assign _ rfl rfl
    · intro L a wr hL hI
      obtain ⟨u7, u8, u17, u18, u19, u20, u21, u22, u23, u24, rfl, hla, hca, hlb, hcb, hcx, hmv, he0, he1, has, h89, hC⟩ := hI
      obtain rfl := hla (hL 0 (by decide))
      obtain rfl := hca (hL 1 (by decide))
      obtain rfl := hlb (hL 2 (by decide))
      obtain rfl := hcb (hL 3 (by decide))
      obtain rfl := hcx (hL 4 (by decide))
      obtain rfl := hmv (hL 5 (by decide))
      obtain rfl := he0 (hL 6 (by decide))
      obtain rfl := he1 (hL 7 (by decide))
      obtain rfl := has (hL 10 (by decide))
      obtain ⟨q, rfl, hq2, hq3⟩ := hC.2 (hL 8 (by decide))
      have hq4 : At wr q 3 f := hq3.congr fun k hk => by rw [if_pos (hL 9 (by decide))]
      have hBw := hC.1
      clear hq3 hC h89
      unfold frB
      have hE' := hE.up hBw
      have hB' := hB.trans (hBw.mono hBs)
      obtain ⟨o0, o1, o2⟩ := three hq4
      obtain ⟨p0, p1, p2⟩ := three hE'
      go_wp2_with fail
      refine (Hq.out _).mono ?_
      rintro e w5 ⟨rfl, hb5⟩
      have hBz := nx hB' hb5
      cases b
      all_goals
        go_wp2_with fail
        go_ret
        exact ⟨rfl, hBz⟩

theorem laidOut : laidOutB Try.prog = true := by kernel_rfl
set_option maxRecDepth 100000 in
/-- What the walk gives, for every argument. -/
theorem contract (H : Type) (enc : TypeId × Value → H) (W : World) (base : Nat) (args : Array Value) (ds gs : List (DataW H)) (before : List MemPlace)
    (hval : ∀ (j : Nat) t v, Try.f3.params[j]? = some t → args[j]? = some v → Value.okWide Try.prog W .any base t v)
    (hW : DataW.Whole enc Try.prog Try.f3.params.toList Rows.fnExactCompareDiceSpec.vars false W args.toList ds gs before) :
    Calls Try.prog 3 args W fun e W' => ∃ v, e = .returned v ∧ Rows.fnExactCompareDiceSpec.post enc Try.prog Try.f3 false true false false W args v W' := by
  have hW' := hW
  obtain ⟨p, q, hA0, hV, rfl, hfz, hnd⟩ := hW
  have hA : DataW.TrodAll enc Try.prog W 0 (fun _ => true) true Try.f3.params.toList args.toList ds p := hA0
  rw [Try.params3] at hA hval
  obtain ⟨v0, vs0, d0, ds0, p0, q0, hargs, rfl, rfl, h0, r0⟩ := trodAll_cons hA
  obtain ⟨v1, vs1, d1, ds1, p1, q1, rfl, rfl, rfl, h1, r1⟩ := trodAll_cons r0
  obtain ⟨rfl, rfl, rfl⟩ := trodAll_nil r1
  obtain rfl : args = #[v0, v1] := by cases args; simp_all
  obtain ⟨rfl, rfl⟩ := trodVars_none hV
  obtain ⟨a0, rfl, w0⟩ := OpenD.die_of (hval 0 22 v0 rfl rfl) h0
  have k0 := h0
  have lt0 : ∀ x ∈ p0, x.block < W.heap.size := fun x hx => by have := hW'.lt x (by simp [hx]); simpa using this
  obtain ⟨a1, rfl, w1⟩ := OpenD.die_of (hval 1 22 v1 rfl rfl) h1
  have k1 := h1
  have lt1 : ∀ x ∈ p1, x.block < W.heap.size := fun x hx => by have := hW'.lt x (by simp [hx]); simpa using this
  clear hA0
  simp only [List.append_nil] at hW'
  refine (law_any a0 a1 W).mono fun e W' ⟨he, hg⟩ => ?_
  subst he
  exact ⟨_, rfl, _, _, _, [], (p0 ++ (p1 ++ [])), [], hW', trodAll_cons_mk (shut_bool Try.underlying4 _) trodAll_mk0, trodAll_cons_mk (Below.trod laidOut (by kernel_rfl) (of_decide_eq_true (by kernel_rfl)) k0 hg lt0) (trodAll_cons_mk (Below.trod laidOut (by kernel_rfl) (of_decide_eq_true (by kernel_rfl)) k1 hg lt1) trodAll_mk0), rfl, hg.frame _, fun h => by cases h⟩

theorem own : ownKnob Try.prog.godebug = none := by kernel_rfl

set_option maxRecDepth 100000 in
theorem lifted (os : Os) (started : os.Started) (H : Type) (enc : TypeId × Value → H) :
    ReturnsInHanded {} Try.checked os 3 .any (Rows.fnExactCompareDiceSpec.pre6 enc Try.prog Try.f3 Rows.fnExactCompareDiceRow.domain false) (Rows.fnExactCompareDiceSpec.post enc Try.prog Try.f3 false true false false) := by
  refine returnsInHanded_of_change (C := Try.checked) own started (by kernel_rfl) Try.func3
    (ChangeSpec.witness6 (enc := enc) (C := Try.checked) false ⟨#[], #[.agg #[.int .i64 0, .int .i64 0, .int .i64 0, .int .i64 0, .int .i64 0, .int .i64 0], .agg #[.int .i64 0, .int .i64 0, .int .i64 0, .int .i64 0, .int .i64 0, .int .i64 0]], []⟩ 8 (by kernel_rfl) (by kernel_rfl) (by kernel_rfl) (by kernel_rfl)) ?_
  intro W base args ds gs before hval hW _ _
  exact contract H enc W base args ds gs before hval hW

theorem holds : Rows.FnExactCompareDiceSaid :=
  OpenClaim.holds_of_wide 3 Try.f3 rfl rfl rfl rfl rfl rfl rfl ⟨rfl, rfl, rfl, rfl, rfl⟩ rfl rfl rfl rfl rfl (by kernel_rfl) Try.func3 (by kernel_rfl)
    (of_decide_eq_true (by kernel_rfl)) (by unfold Func.isWrapper; rw [if_neg (by decide +kernel)]; exact ⟨rfl, rfl⟩)
    (fun os started H enc _ => lifted os started H enc)

end CompP
end Go.Proofs.Ytllcjgladjcoaaa
