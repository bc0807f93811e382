/-
  FnExactChanceBetter: for every list of arrays of six numbers and every array of four numbers the law returns true, and both read afterwards as they read before. No condition.
-/
import Derived.Test.YtbcaahaaaodhkaaRows
import Derived.Test.YtbcaahaaaodhkaaAnyR
import Derived.Test.YtbcaahaaaodhkaaBettI
import Derived.Test.YtbcaahaaaodhkaaBettS
import Derived.Test.YtbcaahaaaodhkaaWaysC
import Derived.Test.YtbcaahaaaodhkaaOpenF
import Derived.Test.YtbcaahaaaodhkaaPatV
import Derived.Test.YtbcaahaaaodhkaaPatC
import Derived.Test.YtbcaahaaaodhkaaRollR
import Derived.Test.YtbcaahaaaodhkaaFracW
import Derived.Test.YtbcaahaaaodhkaaCutW
import Derived.Test.YtbcaahaaaodhkaaPatsI
import Derived.Test.YtbcaahaaaodhkaaPatS
import Derived.Test.YtbcaahaaaodhkaaPlS
import Derived.Test.YtbcaahaaaodhkaaPatI
import Derived.Test.YtbcaahaaaodhkaaPlI
import Derived.Test.YtbcaahaaaodhkaaFour
import Derived.Test.YtbcaahaaaodhkaaPatM
import Derived.Test.YtbcaahaaaodhkaaSortDn
import Derived.Test.YtbcaahaaaodhkaaPlaces
import Derived.Test.YtbcaahaaaodhkaaRollWM
import Derived.Test.YtbcaahaaaodhkaaIntsM
import Derived.Test.YtbcaahaaaodhkaaPoolW
import Derived.Test.YtbcaahaaaodhkaaAll6
import Derived.Test.YtbcaahaaaodhkaaDicesW
import Derived.Test.YtbcaahaaaodhkaaOpenD
import Derived.WalkKit
import Derived.WalkLawsBesides
import Derived.WalkSpells
import Derived.ProofKit
import Derived.OpenShut
import Derived.Deep.RegionWith
import Derived.Deep.QuietTactic
import Derived.BigQuiet
namespace Go.Proofs.Ytbcaahaaaodhkaa
open Go.ChangeShapes Go.WideShapes Go.ChangeAt Go.RowKit
open Go.ChangeMaps (open_string shut_string)

namespace BettP
open Dice Arr OpenD DieW SortW DicesW PoolW All6 IntsW RollW Places PatM SortDn PlI Four PatI PatsI PlS PatS PatV PatC WaysC BettI BettS CutW FracW AnyR

def frB (A : Option Addr) (n c : Nat) (g : Nat → Int) (h : Nat) (u6 u7 u16 u17 u18 u19 u20 u21 u22 u23 : Value) : Act := ⟨#[.slice A n c, v4 g, undef, .pointer (some ⟨h, 0, none⟩), .bool false, .int .i64 (1048576 - (n : Int)), u6, u7, undef, undef, undef, .slice A n c, .int .i64 1048576, .int .i64 (1048576 - (n : Int)), .int .i64 (1048576 - (n : Int)), .bool (decide (1048576 - (n : Int) < 0)), u16, u17, u18, u19, u20, u21, u22, u23, undef, undef, undef, undef, undef, undef, undef, undef, undef, undef, undef, undef, undef, undef, undef, undef, undef, undef, undef, undef, undef, undef, undef], []⟩
/-- What the region keeps: all older blocks; the list's copy while it is wanted; the new block. -/
def Cl (W : World) (n : Nat) (P : Nat → Nat → Int) (f : Nat → Int) (v u : Value) (l1 l8 l9 : Bool) (w : World) : Prop :=
  Below W.heap.size W w ∧ (l1 = true → l9 = false → ∃ q, v = .slice (some ⟨q, 0, none⟩) n n ∧ At w q (n * 6) (flat P)) ∧ (l8 = true → ∃ q, u = .pointer (some ⟨q, 0, none⟩) ∧ W.heap.size ≤ q ∧ At w q 2 (fun k => if l9 = true then f k else 0))
theorem Cl.start (W : World) (n : Nat) (P : Nat → Nat → Int) (f : Nat → Int) (v u : Value) : Cl W n P f v u false false false W := ⟨Below.refl _ _, (fun h => by cases h), (fun h => by cases h)⟩
theorem Cl.up {W w w' : World} {n : Nat} {P : Nat → Nat → Int} {f : Nat → Int} {v u : Value} {l1 l8 l9 : Bool} (h : Cl W n P f v u l1 l8 l9 w) (hb : Below w.heap.size w w') : Cl W n P f v u l1 l8 l9 w' :=
  ⟨h.1.trans (hb.mono h.1.size), fun h1 h9 => by obtain ⟨q, e, hA⟩ := h.2.1 h1 h9; exact ⟨q, e, hA.up hb⟩, fun h8 => by obtain ⟨q, e, hq, hA⟩ := h.2.2 h8; exact ⟨q, e, hq, hA.up hb⟩⟩
theorem Cl.row {W w : World} {n q : Nat} {P : Nat → Nat → Int} {f : Nat → Int} {v u : Value} {l1 l8 l9 : Bool} (h : Cl W n P f v u l1 l8 l9 w) (hA : At w q (n * 6) (flat P)) : Cl W n P f (.slice (some ⟨q, 0, none⟩) n n) u true l8 l9 w :=
  ⟨h.1, fun _ _ => ⟨q, rfl, hA⟩, h.2.2⟩
theorem Cl.alloc {W w : World} {n : Nat} {P : Nat → Nat → Int} {f : Nat → Int} {v u : Value} {l1 l8 l9 : Bool} (h : Cl W n P f v u l1 l8 l9 w) (h9 : l9 = false) : Cl W n P f v (.pointer (some ⟨w.heap.size, 0, none⟩)) l1 true l9 (w.alloc (.cells #[.int .i64 0, .int .i64 0] 31)) := by
  subst h9
  exact ⟨h.1.alloc h.1.size _, fun h1 h9 => by obtain ⟨q, e, hA⟩ := h.2.1 h1 h9; exact ⟨q, e, hA.past _⟩, fun _ => ⟨_, rfl, h.1.size, At.new2 w 31⟩⟩
theorem Cl.stored {W w : World} {n q : Nat} {P : Nat → Nat → Int} {x y : Int} {v u : Value} {l1 l8 l9 : Bool} (h : Cl W n P (fr x y) v u l1 l8 l9 w) (hq : W.heap.size ≤ q) (hA : At w q 2 (fun _ => 0)) : Cl W n P (fr x y) v (.pointer (some ⟨q, 0, none⟩)) l1 l8 true ((w.setCell ⟨q, 0, none⟩ (.int .i64 x)).setCell ⟨q, 1, none⟩ (.int .i64 y)) :=
  ⟨(h.1.setCell (p := ⟨q, 0, none⟩) hq _).setCell (p := ⟨q, 1, none⟩) hq _, (fun _ h => by cases h), fun _ => ⟨q, rfl, hq, hA.stored (fr x y)⟩⟩

set_option maxRecDepth 20000 in
set_option maxHeartbeats 8000000 in
theorem law_any (A : Option Addr) (n c : Nat) (P : Nat → Nat → Int) (g : Nat → Int) (w : World) (h : Row w A n P) (hc : n ≤ c) (hm : c ≤ maxLen) :
    Calls Try.prog 4 #[.slice A n c, v4 g] w fun e w' => e = .returned (.bool true) ∧ Below w.heap.size w w' := by
  have hn : n ≤ maxLen := Nat.le_trans hc hm
  have hsz := fun w => sz_any A n c w hn
  have hX := At.new4 w g 23 rfl
  have hB := na (n0 w) (fourO g 23)
  by_cases hbig : n ≤ 1048576
  · rw [if_pos hbig] at hsz
    have Hsz := Lib.hid hsz; clear hsz
    have Ht := Lib.hid (fun w h => toS_any A n c P w h hbig)
    have Hq := Lib.hid (fun A B c c' w h h' => eqS_any A B n c c' P w h h' hn)
    have Ht4 := Lib.hid (fun w => toA4_any g w)
    have H := Lib.hid h; clear h
    obtain ⟨x, y, b, ho⟩ : ∃ x y b, (if isPool n P && valid n g then #[cutV (wN (isB P n g) (all6 n)) (all6 n), .bool true] else #[v2 0 0, .bool false] : Array Value) = #[v2 x y, .bool b] := by
      cases (isPool n P && valid n g)
      · exact ⟨0, 0, false, rfl⟩
      · exact ⟨_, _, true, rfl⟩
    have hs := fun A c w h => specB_any A n c P g w h hn hbig
    have hi := fun A c w h => implB_any A n c P g w h hn hbig
    rw [ho] at hs hi
    have Hs := Lib.hid hs; clear hs
    have Hi := Lib.hid hi; clear hi
    clear ho
    have Hq2 := Lib.hid (fun w => eqA2_any x y w)
    clear hc hm hn
    go_enter Try.func4, Try.ntmps4
    go_wp2_with fail
    refine (Hsz.out _).mono ?_
    rintro e w0 ⟨rfl, hw0⟩
    have hw0 := hw0.symm
    subst hw0
    go_wp2_with fail
    obtain ⟨x0, x1, x2, x3⟩ := At.four hX
    generalize w.alloc (fourO g 23) = W at *
    have hB := hB.drew
    have hX := hX.drew
    refine wp_region_inv (I := fun L a w' => ∃ u6 u7 u16 u17 u18 u19 u20 u21 u22 u23 : Value, a = frB A n c g w.heap.size u6 u7 u16 u17 u18 u19 u20 u21 u22 u23 ∧ (L 0 = true → u17 = (.slice A n c)) ∧ (L 2 = true → u19 = (v4 g)) ∧ (L 3 = true → u20 = (v4 g)) ∧ (L 4 = true → u21 = (.tuple #[v2 x y, .bool b])) ∧ (L 5 = true → u16 = (.tuple #[v2 x y, .bool b])) ∧ (L 6 = true → u22 = (v2 x y)) ∧ (L 7 = true → u23 = (.bool b)) ∧ (L 10 = true → u7 = (.bool b)) ∧ (L 9 = true → L 8 = true ∧ L 4 = true) ∧ (L 4 = true → L 1 = true) ∧ Cl W.drew n P (fr x y) u18 u6 (L 1) (L 8) (L 9) w') (by kernel_rfl) (by kernel_rfl) ?_ ?_ ?_
    · exact ⟨_, _, _, _, _, _, _, _, _, _, rfl, (fun h => by cases h), (fun h => by cases h), (fun h => by cases h), (fun h => by cases h), (fun h => by cases h), (fun h => by cases h), (fun h => by cases h), (fun h => by cases h), (fun h => by cases h), (fun h => by cases h), Cl.start W.drew _ _ _ _ _⟩
    · intro L a wz i hi hL hdep hI
      obtain ⟨u6, u7, u16, u17, u18, u19, u20, u21, u22, u23, rfl, e0, e2, e3, e4, e5, e6, e7, e10, h9, h41, hC⟩ := hI
      have hi' : i < 11 := hi
      clear hi
      obtain rfl | rfl | rfl | rfl | rfl | rfl | rfl | rfl | rfl | rfl | rfl : i = 0 ∨ i = 1 ∨ i = 2 ∨ i = 3 ∨ i = 4 ∨ i = 5 ∨ i = 6 ∨ i = 7 ∨ i = 8 ∨ i = 9 ∨ i = 10 := by omega
      · refine wpOp_want rfl rfl (Oper.wp_of_quiet (C := Cl W.drew n P (fr x y) u18 u6 (L 1) (L 8) (L 9)) (K := fun a' => a' = frB A n c g w.heap.size (u6) (u7) (u16) ((.slice A n c)) (u18) (u19) (u20) (u21) (u22) (u23)) hC ?_ ?_)
        · intro a' w' hC' hK
          subst hK
          exact ⟨u6, u7, u16, (.slice A n c), u18, u19, u20, u21, u22, u23, by first | rfl | simp, fun _ => rfl, e2, e3, e4, e5, e6, e7, e10, h9, h41, hC'⟩
        · exact BigFrame.quiet_move _ rfl rfl
      · obtain rfl := e0 (hdep 0 (by kernel_rfl))
        have h9f : L 9 = false := by cases h : L 9; rfl; exact absurd (h41 (h9 h).2) (by rw [hL]; decide)
        have Hx := Lib.hid hC; clear hC
        refine wpOp_want rfl rfl ?_
        unfold frB
        go_simp
        refine (Ht.out _ (H.out.up (hB.trans (Hx.out.1.mono hB.size)))).mono ?_
        rintro e w9 ⟨g1, rfl, hg1, hA1, hb⟩
        go_simp
        exact ⟨u6, u7, u16, (.slice A n c), .slice (some ⟨g1, 0, none⟩) n n, u19, u20, u21, u22, u23, by first | rfl | simp, fun _ => rfl, e2, e3, e4, e5, e6, e7, e10, h9, (fun _ => rfl), (Hx.out.up hb).row hA1⟩
      · have hX2 := hX.up hC.1
        obtain ⟨x0, x1, x2, x3⟩ := At.four hX2
        refine wpOp_want rfl rfl ?_
        unfold frB
        go_simp
        exact ⟨u6, u7, u16, u17, u18, (v4 g), u20, u21, u22, u23, by first | rfl | simp, e0, fun _ => rfl, e3, e4, e5, e6, e7, e10, h9, h41, hC⟩
      · obtain rfl := e2 (hdep 2 (by kernel_rfl))
        have Hx := Lib.hid hC; clear hC
        refine wpOp_want rfl rfl ?_
        unfold frB
        go_simp
        refine (Ht4.out _).mono ?_
        rintro e w9 ⟨rfl, hb⟩
        go_simp
        exact ⟨u6, u7, u16, u17, u18, (v4 g), (v4 g), u21, u22, u23, by first | rfl | simp, e0, fun _ => rfl, fun _ => rfl, e4, e5, e6, e7, e10, h9, h41, Hx.out.up hb⟩
      · obtain rfl := e3 (hdep 3 (by kernel_rfl))
        have h9f : L 9 = false := by cases h : L 9; rfl; exact absurd (h9 h).2 (by rw [hL]; decide)
        obtain ⟨g1, rfl, hA1⟩ := hC.2.1 (hdep 1 (by kernel_rfl)) h9f
        have Hx := Lib.hid hC; clear hC
        refine wpOp_want rfl rfl ?_
        unfold frB
        go_simp
        refine (Hs.out _ _ _ (row_of_at hA1)).mono ?_
        rintro e w9 ⟨rfl, hb⟩
        go_simp
        exact ⟨u6, u7, u16, u17, .slice (some ⟨g1, 0, none⟩) n n, u19, (v4 g), (.tuple #[v2 x y, .bool b]), u22, u23, by first | rfl | simp, e0, e2, fun _ => rfl, fun _ => rfl, e5, e6, e7, e10, fun h => ⟨(h9 h).1, rfl⟩, fun _ => hdep 1 (by kernel_rfl), Hx.out.up hb⟩
      · obtain rfl := e4 (hdep 4 (by kernel_rfl))
        refine wpOp_want rfl rfl (Oper.wp_of_quiet (C := Cl W.drew n P (fr x y) u18 u6 (L 1) (L 8) (L 9)) (K := fun a' => a' = frB A n c g w.heap.size (u6) (u7) ((.tuple #[v2 x y, .bool b])) (u17) (u18) (u19) (u20) ((.tuple #[v2 x y, .bool b])) (u22) (u23)) hC ?_ ?_)
        · intro a' w' hC' hK
          subst hK
          exact ⟨u6, u7, (.tuple #[v2 x y, .bool b]), u17, u18, u19, u20, (.tuple #[v2 x y, .bool b]), u22, u23, by first | rfl | simp, e0, e2, e3, fun _ => rfl, fun _ => rfl, e6, e7, e10, h9, h41, hC'⟩
        · exact BigFrame.quiet_move _ rfl rfl
      · obtain rfl := e5 (hdep 5 (by kernel_rfl))
        refine wpOp_want rfl rfl (Oper.wp_of_quiet (C := Cl W.drew n P (fr x y) u18 u6 (L 1) (L 8) (L 9)) (K := fun a' => a' = frB A n c g w.heap.size (u6) (u7) ((.tuple #[v2 x y, .bool b])) (u17) (u18) (u19) (u20) (u21) ((v2 x y)) (u23)) hC ?_ ?_)
        · intro a' w' hC' hK
          subst hK
          exact ⟨u6, u7, (.tuple #[v2 x y, .bool b]), u17, u18, u19, u20, u21, (v2 x y), u23, by first | rfl | simp, e0, e2, e3, e4, fun _ => rfl, fun _ => rfl, e7, e10, h9, h41, hC'⟩
        · exact ⟨(v2 x y), fun w' hw' => ⟨rfl, rfl⟩, rfl⟩
      · obtain rfl := e5 (hdep 5 (by kernel_rfl))
        refine wpOp_want rfl rfl (Oper.wp_of_quiet (C := Cl W.drew n P (fr x y) u18 u6 (L 1) (L 8) (L 9)) (K := fun a' => a' = frB A n c g w.heap.size (u6) (u7) ((.tuple #[v2 x y, .bool b])) (u17) (u18) (u19) (u20) (u21) (u22) ((.bool b))) hC ?_ ?_)
        · intro a' w' hC' hK
          subst hK
          exact ⟨u6, u7, (.tuple #[v2 x y, .bool b]), u17, u18, u19, u20, u21, u22, (.bool b), by first | rfl | simp, e0, e2, e3, e4, fun _ => rfl, e6, fun _ => rfl, e10, h9, h41, hC'⟩
        · exact ⟨(.bool b), fun w' hw' => ⟨rfl, rfl⟩, rfl⟩
      · have h9f : L 9 = false := by cases h : L 9; rfl; exact absurd (h9 h).1 (by rw [hL]; decide)
        have Hx := Lib.hid hC; clear hC
        refine wpOp_want rfl rfl ?_
        unfold frB
        go_simp
        exact ⟨.pointer (some ⟨wz.heap.size, 0, none⟩), u7, u16, u17, u18, u19, u20, u21, u22, u23, by first | rfl | simp, e0, e2, e3, e4, e5, e6, e7, e10, fun h => ⟨rfl, (h9 h).2⟩, h41, Hx.out.alloc h9f⟩
      · obtain rfl := e6 (hdep 6 (by kernel_rfl))
        obtain ⟨q, rfl, hq2, hq3⟩ := hC.2.2 (hdep 8 (by kernel_rfl))
        rw [hL] at hq3
        have hq3' : At wz q 2 (fun _ => 0) := hq3
        have o0 := hq3'.cell 0 (by omega)
        have o1 := hq3'.cell 1 (by omega)
        have z0 := hq3'.free 0
        have z1 := hq3'.free 1
        have Hx := Lib.hid hC; clear hC
        refine wpOp_want rfl rfl ?_
        unfold frB
        go_simp
        exact ⟨.pointer (some ⟨q, 0, none⟩), u7, u16, u17, u18, u19, u20, u21, (v2 x y), u23, by first | rfl | simp, e0, e2, e3, e4, e5, fun _ => rfl, e7, e10, fun _ => ⟨hdep 8 (by kernel_rfl), hdep 4 (by kernel_rfl)⟩, h41, Hx.out.stored hq2 hq3'⟩
      · obtain rfl := e7 (hdep 7 (by kernel_rfl))
        refine wpOp_want rfl rfl (Oper.wp_of_quiet (C := Cl W.drew n P (fr x y) u18 u6 (L 1) (L 8) (L 9)) (K := fun a' => a' = frB A n c g w.heap.size (u6) ((.bool b)) (u16) (u17) (u18) (u19) (u20) (u21) (u22) ((.bool b))) hC ?_ ?_)
        · intro a' w' hC' hK
          subst hK
          exact ⟨u6, (.bool b), u16, u17, u18, u19, u20, u21, u22, (.bool b), by first | rfl | simp, e0, e2, e3, e4, e5, e6, fun _ => rfl, fun _ => rfl, h9, h41, hC'⟩
        · exact BigFrame.quiet_assign _ rfl rfl
    · intro L a wz hL hI
      obtain ⟨u6, u7, u16, u17, u18, u19, u20, u21, u22, u23, rfl, e0, e2, e3, e4, e5, e6, e7, e10, _, _, hC⟩ := hI
      obtain rfl := e0 (hL 0 (by decide))
      obtain rfl := e2 (hL 2 (by decide))
      obtain rfl := e3 (hL 3 (by decide))
      obtain rfl := e4 (hL 4 (by decide))
      obtain rfl := e5 (hL 5 (by decide))
      obtain rfl := e6 (hL 6 (by decide))
      obtain rfl := e7 (hL 7 (by decide))
      obtain rfl := e10 (hL 10 (by decide))
      obtain ⟨q, rfl, hq2, hq3⟩ := hC.2.2 (hL 8 (by decide))
      have hW0 : At wz q 2 (fr x y) := hq3.congr fun k hk => by rw [if_pos (hL 9 (by decide))]
      have hBw := hC.1
      have hX := hX.up hBw
      have hB := hB.trans (hBw.mono hB.size)
      clear hq3 hC hBw hq2
      unfold frB
      obtain ⟨x0, x1, x2, x3⟩ := At.four hX
      go_wp2_with fail
      refine (Ht.out _ (H.out.up hB)).mono ?_
      rintro e w3 ⟨g3, rfl, hg3, hA3, hb⟩
      have hB := nx hB hb
      have hX := hX.up hb
      have hW0 := hW0.up hb
      clear hb
      obtain ⟨x0, x1, x2, x3⟩ := At.four hX
      go_wp2_with fail
      refine (Ht4.out _).mono ?_
      rintro e w4 ⟨rfl, hb⟩
      have hB := nx hB hb
      have hA3 := hA3.up hb
      have hW0 := hW0.up hb
      clear hb
      go_wp2_with fail
      refine (Hi.out _ _ _ (row_of_at hA3)).mono ?_
      rintro e w5 ⟨rfl, hb⟩
      have hB4 := nx hB hb
      have hA4 := hA3.up hb
      have hW0 := hW0.up hb
      have hlt0 := hW0.lt
      have y0 := hW0.cell 0 (by omega)
      have y1 := hW0.cell 1 (by omega)
      clear hb hA3 hX x0 x1 x2 x3 hB
      go_wp2_with fail
      refine (Hq2.out _).mono ?_
      rintro e w6 ⟨rfl, hb5⟩
      have hBx := nx (na hB4 _) hb5
      have hAx := (hA4.past _).up hb5
      clear hb5 hB4 hA4
      cases b
      all_goals
        go_wp2_with fail
        refine (Ht.out _ (H.out.up hBx)).mono ?_
        rintro e w8 ⟨g8, rfl, hg8, hA8, hb8⟩
        have hA8' := hAx.up hb8
        go_wp2_with fail
        refine (Hq.out _ _ _ _ _ (row_of_at hA8') (row_of_at hA8)).mono ?_
        rintro e w9 ⟨rfl, hb9⟩
        go_wp2_with fail
        go_ret
        exact ⟨rfl, nx (nx hBx hb8) hb9⟩
  · rw [if_neg hbig] at hsz
    have Hsz := Lib.hid hsz; clear hsz
    clear h hbig hc hm hn
    go_enter Try.func4, Try.ntmps4
    go_wp2_with fail
    refine (Hsz.out _).mono ?_
    rintro e w0 ⟨rfl, hw0⟩
    have hw0 := hw0.symm
    subst hw0
    go_wp2_with fail
    go_ret
    exact ⟨rfl, hB⟩

theorem laidOut : laidOutB Try.prog = true := by kernel_rfl
set_option maxRecDepth 100000 in
/-- What the walk gives, for every argument. -/
theorem contract (H : Type) (enc : TypeId × Value → H) (W : World) (base : Nat) (args : Array Value) (ds gs : List (DataW H)) (before : List MemPlace)
    (hval : ∀ (j : Nat) t v, Try.f4.params[j]? = some t → args[j]? = some v → Value.okWide Try.prog W .any base t v)
    (hW : DataW.Whole enc Try.prog Try.f4.params.toList Rows.fnExactChanceBetterSpec.vars false W args.toList ds gs before) :
    Calls Try.prog 4 args W fun e W' => ∃ v, e = .returned v ∧ Rows.fnExactChanceBetterSpec.post enc Try.prog Try.f4 false true false false W args v W' := by
  have hW' := hW
  obtain ⟨p, q, hA0, hV, rfl, hfz, hnd⟩ := hW
  have hA : DataW.TrodAll enc Try.prog W 0 (fun _ => true) true Try.f4.params.toList args.toList ds p := hA0
  rw [Try.params4] at hA hval
  obtain ⟨v0, vs0, d0, ds0, p0, q0, hargs, rfl, rfl, h0, r0⟩ := trodAll_cons hA
  obtain ⟨v1, vs1, d1, ds1, p1, q1, rfl, rfl, rfl, h1, r1⟩ := trodAll_cons r0
  obtain ⟨rfl, rfl, rfl⟩ := trodAll_nil r1
  obtain rfl : args = #[v0, v1] := by cases args; simp_all
  obtain ⟨rfl, rfl⟩ := trodVars_none hV
  obtain ⟨A0, n0, c0, rfl⟩ := okWide_slice Try.underlying22 (hval 0 22 v0 rfl rfl)
  have k0 := h0
  have lt0 : ∀ x ∈ p0, x.block < W.heap.size := fun x hx => by have := hW'.lt x (by simp [hx]); simpa using this
  obtain ⟨fu0, hf0⟩ := h0
  obtain ⟨a0, ht0, hc0, hm0, w0⟩ := OpenD.dice_of hf0 lt0
  obtain ⟨a1, rfl, w1⟩ := OpenF.four_of (hval 1 23 v1 rfl rfl) h1
  have k1 := h1
  have lt1 : ∀ x ∈ p1, x.block < W.heap.size := fun x hx => by have := hW'.lt x (by simp [hx]); simpa using this
  clear hA0
  simp only [List.append_nil] at hW'
  refine (law_any A0 n0 c0 a0 a1 W ht0 hc0 hm0).mono fun e W' ⟨he, hg⟩ => ?_
  subst he
  exact ⟨_, rfl, _, _, _, [], (p0 ++ (p1 ++ [])), [], hW', trodAll_cons_mk (shut_bool Try.underlying4 _) trodAll_mk0, trodAll_cons_mk (Below.trod laidOut (by kernel_rfl) (of_decide_eq_true (by kernel_rfl)) k0 hg lt0) (trodAll_cons_mk (Below.trod laidOut (by kernel_rfl) (of_decide_eq_true (by kernel_rfl)) k1 hg lt1) trodAll_mk0), rfl, hg.frame _, fun h => by cases h⟩

theorem own : ownKnob Try.prog.godebug = none := by kernel_rfl

set_option maxRecDepth 100000 in
theorem lifted (os : Os) (started : os.Started) (H : Type) (enc : TypeId × Value → H) :
    ReturnsInHanded {} Try.checked os 4 .any (Rows.fnExactChanceBetterSpec.pre6 enc Try.prog Try.f4 Rows.fnExactChanceBetterRow.domain false) (Rows.fnExactChanceBetterSpec.post enc Try.prog Try.f4 false true false false) := by
  refine returnsInHanded_of_change (C := Try.checked) own started (by kernel_rfl) Try.func4
    (ChangeSpec.witness6 (enc := enc) (C := Try.checked) false ⟨#[], #[.slice none 0 0, .agg #[.int .i64 0, .int .i64 0, .int .i64 0, .int .i64 0]], []⟩ 8 (by kernel_rfl) (by kernel_rfl) (by kernel_rfl) (by kernel_rfl)) ?_
  intro W base args ds gs before hval hW _ _
  exact contract H enc W base args ds gs before hval hW

theorem holds : Rows.FnExactChanceBetterSaid :=
  OpenClaim.holds_of_wide 4 Try.f4 rfl rfl rfl rfl rfl rfl rfl ⟨rfl, rfl, rfl, rfl, rfl⟩ rfl rfl rfl rfl rfl (by kernel_rfl) Try.func4 (by kernel_rfl)
    (of_decide_eq_true (by kernel_rfl)) (by unfold Func.isWrapper; rw [if_neg (by decide +kernel)]; exact ⟨rfl, rfl⟩)
    (fun os started H enc _ => lifted os started H enc)

end BettP
end Go.Proofs.Ytbcaahaaaodhkaa
