/-
  The table of who beats whom, by the specification.
-/
import Derived.Test.YtagieilahejobaaRows
import Derived.Test.YtagieilahejobaaRingI
import Derived.Test.YtagieilahejobaaRingS
import Derived.Test.YtagieilahejobaaManyI
import Derived.Test.YtagieilahejobaaManyS
import Derived.Test.YtagieilahejobaaAnyR
import Derived.Test.YtagieilahejobaaBeatI
import Derived.Test.YtagieilahejobaaIntsW
import Derived.Test.YtagieilahejobaaSafeI
import Derived.Test.YtagieilahejobaaSafeS
import Derived.Test.YtagieilahejobaaRowW
import Derived.Test.YtagieilahejobaaRowsL
import Derived.Test.YtagieilahejobaaQuietR
import Derived.Test.YtagieilahejobaaQuietD
import Derived.Test.YtagieilahejobaaBestI
import Derived.Test.YtagieilahejobaaBestS
import Derived.Test.YtagieilahejobaaShelfMax
import Derived.Test.YtagieilahejobaaTopW
import Derived.Test.YtagieilahejobaaManyW
import Derived.Test.YtagieilahejobaaDicesW
import Derived.Test.YtagieilahejobaaWaysW
import Derived.Test.YtagieilahejobaaKnow
import Derived.Test.YtagieilahejobaaCmpW
import Derived.Test.YtagieilahejobaaCompW
import Derived.Test.YtagieilahejobaaCompS
import Derived.Test.YtagieilahejobaaDuel
import Derived.Test.YtagieilahejobaaDieW
import Derived.Test.YtagieilahejobaaSortW
import Derived.Test.YtagieilahejobaaOpenD
import Derived.WalkKit
import Derived.WalkLawsBesides
import Derived.WalkSpells
import Derived.ProofKit
import Derived.OpenShut
import Derived.Deep.RegionWith
import Derived.Deep.QuietTactic
import Derived.BigQuiet
namespace Go.Proofs.Ytagieilahejobaa
open Go.ChangeShapes Go.WideShapes Go.ChangeAt Go.RowKit
open Go.ChangeMaps (open_string shut_string)

namespace TableS2
open Dice Arr OpenD DieW SortW Duel CmpW Know WaysW CompS CompW ManyW QuietD QuietR TopW DicesW BestS BestI RowsL RowW SafeS SafeI BeatI IntsW ManyS ManyI RingS RingI AnyR

/-- What a region that lays one new block keeps: all older blocks, and, once it is laid, the block. -/
def Cl (W : World) (u : Value) (l8 l9 : Bool) (f : Nat → Int) (w : World) : Prop :=
  Below W.heap.size W w ∧ (l8 = true → ∃ q, u = .pointer (some ⟨q, 0, none⟩) ∧ W.heap.size ≤ q ∧ At w q 3 (fun k => if l9 = true then f k else 0))
theorem Cl.start (W : World) (u : Value) (f : Nat → Int) : Cl W u false false f W := ⟨Below.refl _ _, fun h => by cases h⟩
theorem Cl.up {W w w' : World} {u : Value} {l8 l9 : Bool} {f : Nat → Int} (h : Cl W u l8 l9 f w) (hb : Below w.heap.size w w') : Cl W u l8 l9 f w' :=
  ⟨h.1.trans (hb.mono h.1.size), fun h8 => by obtain ⟨q, e, hq, hA⟩ := h.2 h8; exact ⟨q, e, hq, hA.up hb⟩⟩
theorem Cl.alloc {W w : World} {u : Value} {l8 l9 : Bool} {f : Nat → Int} (h : Cl W u l8 l9 f w) (h9 : l9 = false) : Cl W (.pointer (some ⟨w.heap.size, 0, none⟩)) true l9 f (w.alloc (.cells #[.int .i64 0, .int .i64 0, .int .i64 0] 23)) := by
  subst h9
  exact ⟨h.1.alloc h.1.size _, fun _ => ⟨_, rfl, h.1.size, At.new3 w 23 rfl⟩⟩
theorem Cl.stored {W w : World} {q : Nat} {l8 l9 : Bool} {u : Value} {f : Nat → Int} (h : Cl W u l8 l9 f w) (hq : W.heap.size ≤ q) (hA : At w q 3 (fun _ => 0)) : Cl W (.pointer (some ⟨q, 0, none⟩)) l8 true f (w.setCells q 0 (vals 3 f)) :=
  ⟨h.1.trans (setCells_below hq (vals 3 f) 0), fun _ => ⟨q, rfl, hq, hA.stored f⟩⟩
def frT (bk o n c i j h1 h2 : Nat) (u4 u6 u18 u19 u25 u26 u36 u37 u38 u39 u40 u41 u42 u43 u44 u45 u46 u47 u48 u49 u8 u27 u28 u29 u30 u31 u32 u33 u34 u35 : Value) : Act := ⟨#[.slice (some ⟨bk, o, none⟩) n c, undef, .slice none 0 0, .bool false, u4, .int .i64 (i : Int), u6, .int .i64 (j : Int), u8, .slice (some ⟨h1, 0, none⟩) 0 0, .slice (some ⟨bk, o, none⟩) n c, .bool true, .bool false, undef, .int .i64 (i : Int), .slice (some ⟨bk, o, none⟩) n c, .int .i64 (n : Int), .bool true, u18, u19, .slice (some ⟨h2, 0, none⟩) 0 0, .int .i64 (j : Int), .slice (some ⟨bk, o, none⟩) n c, .int .i64 (n : Int), .bool true, u25, u26, u27, u28, u29, u30, u31, u32, u33, u34, u35, u36, u37, u38, u39, u40, u41, u42, u43, u44, u45, u46, u47, u48, u49, undef], []⟩
theorem clamp (a b : Int) : max (-1) (min 1 (a - b)) = cmp3 a b := by
  unfold cmp3
  by_cases h1 : a < b
  · rw [if_pos h1]; omega
  · rw [if_neg h1]
    by_cases h2 : b < a
    · rw [if_pos h2]; omega
    · rw [if_neg h2]; omega
theorem most_max (a b : Int) (w : World) :
    Calls Try.prog 57 #[.int .i64 a, .int .i64 b] w fun e w' => e = .returned (.int .i64 (max a b)) ∧ w' = w := by
  by_cases h : a > b
  · rw [show max a b = a by omega]
    go_enter Try.func57, Try.ntmps57
    go_wp2
    go_ret
    exact ⟨rfl, rfl⟩
  · rw [show max a b = b by omega]
    go_enter Try.func57, Try.ntmps57
    go_wp2
    go_ret
    exact ⟨rfl, rfl⟩

set_option maxRecDepth 100000 in
set_option maxHeartbeats 16000000 in
theorem specTable_any (A : Option Addr) (n c : Nat) (P : Nat → Nat → Int) (w : World) (h : Row w A n P) (hn : n ≤ maxLen) :
    Calls Try.prog 21 #[.slice A n c] w fun e w' => ∃ v, e = .returned (.tuple #[v, .bool (many 6 n P)]) ∧ Below w.heap.size w w' ∧ (many 6 n P = true → ∃ gs cs, RowsAt w' w.heap.size 51 3 1 v n n (LB P n) gs cs) ∧ (many 6 n P = false → ∃ A c, v = .slice A 0 c) := by
  have hr := fun w h => l3Row_any A n c P w h hn
  have H := Lib.hid h; clear h
  have hB := na (n0 w) (.cells #[] 51)
  have hO0 : (w.alloc (.cells #[] 51)).ownsRow w.heap.size 51 1 (.slice (some ⟨w.heap.size, 0, none⟩) 0 0) 0 [] := World.ownsRow_made w #[] 0 (Nat.le_refl _) (by decide) rfl
  cases hq : many 6 n P
  · rw [hq] at hr
    have Hr := Lib.hid hr; clear hr hq hO0
    go_enter Try.func21, Try.ntmps21
    go_wp2_with fail
    refine (Hr.out _ (H.out.up hB)).mono ?_
    rintro e w1 ⟨rfl, hb1⟩
    go_wp2_with fail
    go_ret2
    exact ⟨_, rfl, nx hB hb1, fun h => (by cases h), fun _ => ⟨_, _, rfl⟩⟩
  · obtain ⟨h1, h6, hp⟩ := of_many hq
    rw [hq] at hr
    have Hl0 := Lib.hid (fun x y w => l3Compare_any x y w)
    have Hmin0 := Lib.hid (fun a b w => least_min a b w)
    have Hmax0 := Lib.hid (fun a b w => most_max a b w)
    have Hr := Lib.hid hr; clear hr hq hp
    obtain ⟨i0, hi, hz0, hz1, hz2⟩ := info_parts info_int
    have Hi := Lib.hid (And.intro hi (And.intro hz0 (And.intro hz1 hz2)))
    clear hi hz0 hz1 hz2
    obtain ⟨iS, hi, hz0, hz1, hz2⟩ := info_parts infoL
    have HS := Lib.hid (And.intro hi (And.intro hz0 (And.intro hz1 hz2)))
    clear hi hz0 hz1 hz2
    have Hne : Hid ((3 : TypeId) ≠ 51) := by show (3 : TypeId) ≠ 51; decide
    go_enter Try.func21, Try.ntmps21
    go_wp2_with fail
    refine (Hr.out _ (H.out.up hB)).mono ?_
    rintro e w1 ⟨rfl, hb1⟩
    have hB1 := nx hB hb1
    have hO1 := hO0.kept (grown_of hb1 (Nat.le_refl _) none) (keep_none _)
    clear hb1 hB hO0
    obtain ⟨bk, o, rfl, hbk, hcw⟩ := row_cells H.out h1
    have Hcw := Lib.hid hcw; clear hcw
    clear Hr
    go_wp2_with fail
    go_loopw [4, 5] (fun v kv wr => ∃ (i : Nat) (gs cs : Nat → Nat), i ≤ n ∧ kv = .int .i64 i ∧ RowsAt wr w.heap.size 51 3 1 v i n (LB P n) gs cs ∧ Below w.heap.size w wr) (fun _ kv _ => n - (intOf kv).toNat)
    case atStart => exact ⟨0, fun _ => 0, fun _ => 0, by omega, rfl, ⟨hO1, fun i hi => by omega, fun i j _ hj => by omega⟩, hB1⟩
    case round =>
      clear hB1 hO1
      obtain ⟨i, gs, cs, hi, rfl, hT, hB⟩ := hrel
      by_cases hlt : i < n
      · have hit : decide (i < n) = true := decide_eq_true hlt
        have hsz := hB.size
        have hOe : (wr.alloc (.cells #[] 3)).ownsRow wr.heap.size 3 1 (.slice (some ⟨wr.heap.size, 0, none⟩) 0 0) 0 [] := World.ownsRow_made wr #[] 0 (Nat.le_refl _) (by decide) rfl
        have hUe : Below wr.heap.size wr (wr.alloc (.cells #[] 3)) := na (n0 wr) _
        go_wp2_with fail
        obtain ⟨W0, rfl⟩ : ∃ W0, W0 = wr := ⟨wr, rfl⟩
        go_loopw [6, 7] (fun v2 jv wr => ∃ j : Nat, j ≤ n ∧ jv = .int .i64 j ∧ wr.ownsRow W0.heap.size 3 1 v2 j (iv (sg P i) j) ∧ Below W0.heap.size W0 wr) (fun _ jv _ => n - (intOf jv).toNat)
        case atStart => exact ⟨0, by omega, rfl, hOe, hUe⟩
        case round =>
          clear hOe hUe
          obtain ⟨j, hj, rfl, hO, hU⟩ := hrel
          have hBx := hB.trans (hU.mono hsz)
          have hsx := hU.size
          by_cases hlj : j < n
          · have hjt : decide (j < n) = true := decide_eq_true hlj
            have hl := Hl0.out (P i) (P j)
            unfold tri at hl
            have Hl := Lib.hid hl; clear hl
            go_wp2_with fail
            have hBd := hBx.drew
            have hBds := hBd.size
            refine wp_region_inv (I := fun L a w' => ∃ u8 u27 u28 u29 u30 u31 u32 u33 u34 u35 : Value, a = frT bk o n c i j w.heap.size W0.heap.size u4 u6 u18 u19 u25 u26 u36 u37 u38 u39 u40 u41 u42 u43 u44 u45 u46 u47 u48 u49 u8 u27 u28 u29 u30 u31 u32 u33 u34 u35 ∧ (L 0 = true → u27 = (.slice (some ⟨bk, o, none⟩) n c)) ∧ (L 1 = true → u28 = (.int .i64 (i : Int))) ∧ (L 2 = true → u29 = (.pointer (some ⟨bk, o + i * 6, none⟩))) ∧ (L 3 = true → u30 = (dv (P i))) ∧ (L 4 = true → u31 = (.slice (some ⟨bk, o, none⟩) n c)) ∧ (L 5 = true → u32 = (.int .i64 (j : Int))) ∧ (L 6 = true → u33 = (.pointer (some ⟨bk, o + j * 6, none⟩))) ∧ (L 7 = true → u34 = (dv (P j))) ∧ (L 8 = true → u35 = (.agg #[.int .i64 (cw (P i) (P j) 36 0), .int .i64 (cw (P i) (P j) 36 1), .int .i64 (cw (P i) (P j) 36 2)])) ∧ (L 10 = true → L 9 = true) ∧ Cl wr.drew u8 (L 9) (L 10) (cw (P i) (P j) 36) w') (by kernel_rfl) (by kernel_rfl) ?_ ?_ ?_
            · exact ⟨_, _, _, _, _, _, _, _, _, _, rfl, (fun h => by cases h), (fun h => by cases h), (fun h => by cases h), (fun h => by cases h), (fun h => by cases h), (fun h => by cases h), (fun h => by cases h), (fun h => by cases h), (fun h => by cases h), (fun h => by cases h), Cl.start wr.drew _ _⟩
            · intro L a wz ix hix hL hdep hI
              obtain ⟨u8, u27, u28, u29, u30, u31, u32, u33, u34, u35, rfl, hm0, hmi, hia, hla, hm1, hmj, hib, hlb, hcx, h89, hC⟩ := hI
              have hi' : ix < 11 := hix
              clear hix
              obtain rfl | rfl | rfl | rfl | rfl | rfl | rfl | rfl | rfl | rfl | rfl : ix = 0 ∨ ix = 1 ∨ ix = 2 ∨ ix = 3 ∨ ix = 4 ∨ ix = 5 ∨ ix = 6 ∨ ix = 7 ∨ ix = 8 ∨ ix = 9 ∨ ix = 10 := by omega
              · refine wpOp_want rfl rfl (Oper.wp_of_quiet (C := Cl wr.drew u8 (L 9) (L 10) (cw (P i) (P j) 36)) (K := fun a' => a' = frT bk o n c i j w.heap.size W0.heap.size u4 u6 u18 u19 u25 u26 u36 u37 u38 u39 u40 u41 u42 u43 u44 u45 u46 u47 u48 u49 u8 (.slice (some ⟨bk, o, none⟩) n c) u28 u29 u30 u31 u32 u33 u34 u35) hC ?_ ?_)
                · intro a' w' hC' hK
                  subst hK
                  exact ⟨u8, (.slice (some ⟨bk, o, none⟩) n c), u28, u29, u30, u31, u32, u33, u34, u35, rfl, fun _ => rfl, hmi, hia, hla, hm1, hmj, hib, hlb, hcx, h89, hC'⟩
                · exact BigFrame.quiet_move _ rfl rfl
              · refine wpOp_want rfl rfl (Oper.wp_of_quiet (C := Cl wr.drew u8 (L 9) (L 10) (cw (P i) (P j) 36)) (K := fun a' => a' = frT bk o n c i j w.heap.size W0.heap.size u4 u6 u18 u19 u25 u26 u36 u37 u38 u39 u40 u41 u42 u43 u44 u45 u46 u47 u48 u49 u8 u27 (.int .i64 (i : Int)) u29 u30 u31 u32 u33 u34 u35) hC ?_ ?_)
                · intro a' w' hC' hK
                  subst hK
                  exact ⟨u8, u27, (.int .i64 (i : Int)), u29, u30, u31, u32, u33, u34, u35, rfl, hm0, fun _ => rfl, hia, hla, hm1, hmj, hib, hlb, hcx, h89, hC'⟩
                · exact BigFrame.quiet_move _ rfl rfl
              · obtain rfl := hm0 (hdep 0 (by kernel_rfl))
                obtain rfl := hmi (hdep 1 (by kernel_rfl))
                refine wpOp_want rfl rfl (Oper.wp_of_quiet (C := Cl wr.drew u8 (L 9) (L 10) (cw (P i) (P j) 36)) (K := fun a' => a' = frT bk o n c i j w.heap.size W0.heap.size u4 u6 u18 u19 u25 u26 u36 u37 u38 u39 u40 u41 u42 u43 u44 u45 u46 u47 u48 u49 u8 (.slice (some ⟨bk, o, none⟩) n c) (.int .i64 (i : Int)) (.pointer (some ⟨bk, o + i * 6, none⟩)) u30 u31 u32 u33 u34 u35) hC ?_ ?_)
                · intro a' w' hC' hK
                  subst hK
                  exact ⟨u8, (.slice (some ⟨bk, o, none⟩) n c), (.int .i64 (i : Int)), (.pointer (some ⟨bk, o + i * 6, none⟩)), u30, u31, u32, u33, u34, u35, rfl, fun _ => rfl, fun _ => rfl, fun _ => rfl, hla, hm1, hmj, hib, hlb, hcx, h89, hC'⟩
                · refine ⟨(.pointer (some ⟨bk, o + i * 6, none⟩)), fun w' hw' => ?_, rfl⟩
                  clear hw'
                  unfold frT
                  go_simp
              · obtain rfl := hia (hdep 2 (by kernel_rfl))
                refine wpOp_want rfl rfl (Oper.wp_of_quiet (C := Cl wr.drew u8 (L 9) (L 10) (cw (P i) (P j) 36)) (K := fun a' => a' = frT bk o n c i j w.heap.size W0.heap.size u4 u6 u18 u19 u25 u26 u36 u37 u38 u39 u40 u41 u42 u43 u44 u45 u46 u47 u48 u49 u8 u27 u28 (.pointer (some ⟨bk, o + i * 6, none⟩)) (dv (P i)) u31 u32 u33 u34 u35) hC ?_ ?_)
                · intro a' w' hC' hK
                  subst hK
                  exact ⟨u8, u27, u28, (.pointer (some ⟨bk, o + i * 6, none⟩)), (dv (P i)), u31, u32, u33, u34, u35, rfl, hm0, hmi, fun _ => rfl, fun _ => rfl, hm1, hmj, hib, hlb, hcx, h89, hC'⟩
                · exact quiet_ldo _ rfl rfl (fun _ h => at_row (fun k hk => Hcw.out i hlt k hk) hbk (hBd.trans (h.1.mono hBds))) rfl
              · refine wpOp_want rfl rfl (Oper.wp_of_quiet (C := Cl wr.drew u8 (L 9) (L 10) (cw (P i) (P j) 36)) (K := fun a' => a' = frT bk o n c i j w.heap.size W0.heap.size u4 u6 u18 u19 u25 u26 u36 u37 u38 u39 u40 u41 u42 u43 u44 u45 u46 u47 u48 u49 u8 u27 u28 u29 u30 (.slice (some ⟨bk, o, none⟩) n c) u32 u33 u34 u35) hC ?_ ?_)
                · intro a' w' hC' hK
                  subst hK
                  exact ⟨u8, u27, u28, u29, u30, (.slice (some ⟨bk, o, none⟩) n c), u32, u33, u34, u35, rfl, hm0, hmi, hia, hla, fun _ => rfl, hmj, hib, hlb, hcx, h89, hC'⟩
                · exact BigFrame.quiet_move _ rfl rfl
              · refine wpOp_want rfl rfl (Oper.wp_of_quiet (C := Cl wr.drew u8 (L 9) (L 10) (cw (P i) (P j) 36)) (K := fun a' => a' = frT bk o n c i j w.heap.size W0.heap.size u4 u6 u18 u19 u25 u26 u36 u37 u38 u39 u40 u41 u42 u43 u44 u45 u46 u47 u48 u49 u8 u27 u28 u29 u30 u31 (.int .i64 (j : Int)) u33 u34 u35) hC ?_ ?_)
                · intro a' w' hC' hK
                  subst hK
                  exact ⟨u8, u27, u28, u29, u30, u31, (.int .i64 (j : Int)), u33, u34, u35, rfl, hm0, hmi, hia, hla, hm1, fun _ => rfl, hib, hlb, hcx, h89, hC'⟩
                · exact BigFrame.quiet_move _ rfl rfl
              · obtain rfl := hm1 (hdep 4 (by kernel_rfl))
                obtain rfl := hmj (hdep 5 (by kernel_rfl))
                refine wpOp_want rfl rfl (Oper.wp_of_quiet (C := Cl wr.drew u8 (L 9) (L 10) (cw (P i) (P j) 36)) (K := fun a' => a' = frT bk o n c i j w.heap.size W0.heap.size u4 u6 u18 u19 u25 u26 u36 u37 u38 u39 u40 u41 u42 u43 u44 u45 u46 u47 u48 u49 u8 u27 u28 u29 u30 (.slice (some ⟨bk, o, none⟩) n c) (.int .i64 (j : Int)) (.pointer (some ⟨bk, o + j * 6, none⟩)) u34 u35) hC ?_ ?_)
                · intro a' w' hC' hK
                  subst hK
                  exact ⟨u8, u27, u28, u29, u30, (.slice (some ⟨bk, o, none⟩) n c), (.int .i64 (j : Int)), (.pointer (some ⟨bk, o + j * 6, none⟩)), u34, u35, rfl, hm0, hmi, hia, hla, fun _ => rfl, fun _ => rfl, fun _ => rfl, hlb, hcx, h89, hC'⟩
                · refine ⟨(.pointer (some ⟨bk, o + j * 6, none⟩)), fun w' hw' => ?_, rfl⟩
                  clear hw'
                  unfold frT
                  go_simp
              · obtain rfl := hib (hdep 6 (by kernel_rfl))
                refine wpOp_want rfl rfl (Oper.wp_of_quiet (C := Cl wr.drew u8 (L 9) (L 10) (cw (P i) (P j) 36)) (K := fun a' => a' = frT bk o n c i j w.heap.size W0.heap.size u4 u6 u18 u19 u25 u26 u36 u37 u38 u39 u40 u41 u42 u43 u44 u45 u46 u47 u48 u49 u8 u27 u28 u29 u30 u31 u32 (.pointer (some ⟨bk, o + j * 6, none⟩)) (dv (P j)) u35) hC ?_ ?_)
                · intro a' w' hC' hK
                  subst hK
                  exact ⟨u8, u27, u28, u29, u30, u31, u32, (.pointer (some ⟨bk, o + j * 6, none⟩)), (dv (P j)), u35, rfl, hm0, hmi, hia, hla, hm1, hmj, fun _ => rfl, fun _ => rfl, hcx, h89, hC'⟩
                · exact quiet_ldo _ rfl rfl (fun _ h => at_row (fun k hk => Hcw.out j hlj k hk) hbk (hBd.trans (h.1.mono hBds))) rfl
              · obtain rfl := hla (hdep 3 (by kernel_rfl))
                obtain rfl := hlb (hdep 7 (by kernel_rfl))
                refine wpOp_want rfl rfl (Oper.wp_of_quiet (C := Cl wr.drew u8 (L 9) (L 10) (cw (P i) (P j) 36)) (K := fun a' => a' = frT bk o n c i j w.heap.size W0.heap.size u4 u6 u18 u19 u25 u26 u36 u37 u38 u39 u40 u41 u42 u43 u44 u45 u46 u47 u48 u49 u8 u27 u28 u29 (dv (P i)) u31 u32 u33 (dv (P j)) (.agg #[.int .i64 (cw (P i) (P j) 36 0), .int .i64 (cw (P i) (P j) 36 1), .int .i64 (cw (P i) (P j) 36 2)])) hC ?_ ?_)
                · intro a' w' hC' hK
                  subst hK
                  exact ⟨u8, u27, u28, u29, (dv (P i)), u31, u32, u33, (dv (P j)), (.agg #[.int .i64 (cw (P i) (P j) 36 0), .int .i64 (cw (P i) (P j) 36 1), .int .i64 (cw (P i) (P j) 36 2)]), rfl, hm0, hmi, hia, fun _ => rfl, hm1, hmj, hib, fun _ => rfl, fun _ => rfl, h89, hC'⟩
                · refine ⟨(.agg #[.int .i64 (cw (P i) (P j) 36 0), .int .i64 (cw (P i) (P j) 36 1), .int .i64 (cw (P i) (P j) 36 2)]), fun w' hw' => ?_, rfl⟩
                  have Hw := Lib.hid hw'; clear hw'
                  unfold frT
                  go_simp
                  refine (Hl.out _).mono ?_
                  rintro e w5 ⟨rfl, hb⟩
                  exact ⟨rfl, Hw.out.up hb⟩
              · have h9 : L 10 = false := by cases h9 : L 10; rfl; exact absurd (h89 h9) (by rw [hL]; decide)
                refine wpOp_want rfl rfl ?_
                show Oper.wp _ _ _ _ _ _
                unfold Oper.wp execOp
                go_simp
                exact ⟨.pointer (some ⟨wz.heap.size, 0, none⟩), u27, u28, u29, u30, u31, u32, u33, u34, u35, rfl, hm0, hmi, hia, hla, hm1, hmj, hib, hlb, hcx, fun _ => rfl, hC.alloc h9⟩
              · obtain rfl := hcx (hdep 8 (by kernel_rfl))
                obtain ⟨q, hq1, hq2, hq3⟩ := hC.2 (hdep 9 (by kernel_rfl))
                subst hq1
                rw [hL] at hq3
                have hq3' : At wz q 3 (fun _ => 0) := hq3
                have hlt' := hq3'.lt
                obtain ⟨o0, o1, o2⟩ := three hq3'
                obtain ⟨z0, z1, z2⟩ := free3 hq3'
                refine wpOp_want rfl rfl (Oper.wp_mono (K := fun a' w' => a' = frT bk o n c i j w.heap.size W0.heap.size u4 u6 u18 u19 u25 u26 u36 u37 u38 u39 u40 u41 u42 u43 u44 u45 u46 u47 u48 u49 (.pointer (some ⟨q, 0, none⟩)) u27 u28 u29 u30 u31 u32 u33 u34 (.agg #[.int .i64 (cw (P i) (P j) 36 0), .int .i64 (cw (P i) (P j) 36 1), .int .i64 (cw (P i) (P j) 36 2)]) ∧ w' = wz.setCells q 0 (vals 3 (cw (P i) (P j) 36))) ?_ ?_)
                · rintro a' w' ⟨rfl, rfl⟩
                  exact ⟨(.pointer (some ⟨q, 0, none⟩)), u27, u28, u29, u30, u31, u32, u33, u34, (.agg #[.int .i64 (cw (P i) (P j) 36 0), .int .i64 (cw (P i) (P j) 36 1), .int .i64 (cw (P i) (P j) 36 2)]), rfl, hm0, hmi, hia, hla, hm1, hmj, hib, hlb, fun _ => rfl, fun _ => hdep 9 (by kernel_rfl), hC.stored hq2 hq3'⟩
                · unfold Oper.wp execOp frT
                  go_simp
                  first | exact ⟨rfl, rfl⟩ | rfl
            · intro L a wz hL hI
              obtain ⟨u8, u27, u28, u29, u30, u31, u32, u33, u34, u35, rfl, hm0, hmi, hia, hla, hm1, hmj, hib, hlb, hcx, h89, hC⟩ := hI
              obtain rfl := hm0 (hL 0 (by decide))
              obtain rfl := hmi (hL 1 (by decide))
              obtain rfl := hia (hL 2 (by decide))
              obtain rfl := hla (hL 3 (by decide))
              obtain rfl := hm1 (hL 4 (by decide))
              obtain rfl := hmj (hL 5 (by decide))
              obtain rfl := hib (hL 6 (by decide))
              obtain rfl := hlb (hL 7 (by decide))
              obtain rfl := hcx (hL 8 (by decide))
              obtain ⟨q, rfl, hq2, hq3⟩ := hC.2 (hL 9 (by decide))
              have hq4 : At wz q 3 (cw (P i) (P j) 36) := hq3.congr fun k hk => by rw [if_pos (hL 10 (by decide))]
              have hBw := hC.1
              clear hq3 hC h89
              unfold frT
              have hOz := hO.drew.kept (grown_of hBw (Nat.le_refl _) none) (keep_none _)
              have hUz := hU.drew.trans (hBw.mono hU.drew.size)
              have hBz := hBd.trans (hBw.mono hBds)
              have hsz2 := hUz.size
              have hlq := hq4.lt
              clear hO hU hBx hBw hBd hBds
              obtain ⟨o0, o1, o2⟩ := three hq4
              have b0 := cw_bound (P i) (P j) 36 0
              have b2 := cw_bound (P i) (P j) 36 2
              have Hmin := Lib.hid (Hmin0.out 1 (cw (P i) (P j) 36 0 - cw (P i) (P j) 36 2))
              have Hmax := Lib.hid (Hmax0.out (-1) (min 1 (cw (P i) (P j) 36 0 - cw (P i) (P j) 36 2)))
              have Hcl := Lib.hid (clamp (cw (P i) (P j) 36 0) (cw (P i) (P j) 36 2))
              go_wp2_with fail
              refine (Hmin.out _).mono ?_
              rintro e wy ⟨rfl, rfl⟩
              go_wp2_with fail
              refine (Hmax.out _).mono ?_
              rintro e wy ⟨rfl, rfl⟩
              rw [Hcl.out]
              go_wp2_with (at_builtin; refine wpList_append_own _ rfl _ _ 51 rfl W0.heap.size 3 i0 (.int .i64 0) 1 8 Try.underlying51 Hi.out.1 Hi.out.2.1 Hi.out.2.2.1 Hi.out.2.2.2 rfl (by decide) _ _ _ rfl (hOz.alloc _) ⟨wy.heap.size, 0, none⟩ 1 1 [.int .i64 (cmp3 (cw (P i) (P j) 36 0) (cw (P i) (P j) 36 2))] rfl rfl ?c1 ?c2 ?c3 ?c4 ?c5 ?_)
              case c1 =>
                intro t u ht
                match t, ht with
                | 0, ht => simp at ht; subst ht; simp [Addr.add]
              case c2 => intro u hu; simp at hu; subst hu; rfl
              case c3 => unfold maxLen; omega
              case c4 => omega
              case c5 => simp; omega
              · intro v' w4 hO4 hg4 _
                have hU4 := (na hUz (.cells #[.int .i64 (cmp3 (cw (P i) (P j) 36 0) (cw (P i) (P j) 36 2))] 3)).grown hg4 (by rw [size_alloc]; omega) (fun k e => (hOz.lt k e).1)
                have hO5 : w4.ownsRow W0.heap.size 3 1 v' (j + 1) (iv (sg P i) (j + 1)) := by rw [iv_succ]; exact hO4
                clear hg4 hO4 hOz hUz
                go_wp2_with fail
                go_roundw
                case rel => exact ⟨j + 1, by omega, by go_num, hO5, hU4⟩
                case measure => simp [intOf]; omega
          · obtain rfl : j = n := by omega
            obtain ⟨g2, c2, rfl, hg2⟩ := shape_own hO h1
            have hTx := hT.up hU
            have hlg : ∀ t, t < i → gs t < g2 := fun t ht => by have := (hT.inner_lt ht).2; omega
            have hOm := own_base hO hsz
            have hsx1 := hBx.size
            clear hU hO hT
            go_wp2_with (at_builtin; refine wpList_append_own _ rfl _ _ 33 rfl w.heap.size 51 iS (.slice none 0 0) 1 24 Try.underlying33 HS.out.1 HS.out.2.1 HS.out.2.2.1 HS.out.2.2.2 rfl (by decide) _ _ _ rfl (hTx.out.alloc _) ⟨wr.heap.size, 0, none⟩ 1 1 [.slice (some ⟨g2, 0, none⟩) j c2] rfl rfl ?e1 ?e2 ?e3 ?e4 ?e5 ?_)
            case e1 =>
              intro t u ht
              match t, ht with
              | 0, ht => simp at ht; subst ht; simp [Addr.add]
            case e2 => intro u hu; simp at hu; subst hu; rfl
            case e3 => unfold maxLen; omega
            case e4 => omega
            case e5 => simp; omega
            · intro v' w4 hO4 hg4 _
              have hBz := (hBx.alloc hsx1 (.cells #[.slice (some ⟨g2, 0, none⟩) j c2] 51)).grown hg4 (by rw [size_alloc]; omega) (fun k e => (hTx.out.lt k e).1)
              have hTz := (hTx.up (na (n0 _) (.cells #[.slice (some ⟨g2, 0, none⟩) j c2] 51))).snoc Hne.out (hOm.alloc _) hlg hg4 hO4
              clear hg4 hO4 hTx hOm hlg hBx
              go_wp2_with fail
              go_roundw
              case rel => exact ⟨i + 1, _, _, by omega, by go_num, hTz, hBz⟩
              case measure => simp [intOf]; omega
      · obtain rfl : i = n := by omega
        go_wp2_with fail
        go_ret2
        exact ⟨_, rfl, hB, fun _ => ⟨gs, cs, hT⟩, fun h => (by cases h)⟩


end TableS2
end Go.Proofs.Ytagieilahejobaa
