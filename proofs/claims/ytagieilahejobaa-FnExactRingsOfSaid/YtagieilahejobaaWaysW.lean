/-
  The ways of two dice, remembered in a map.
-/
import Derived.Test.YtagieilahejobaaRows
import Derived.Test.YtagieilahejobaaKnow
import Derived.Test.YtagieilahejobaaDuel
import Derived.Test.YtagieilahejobaaCmpW
import Derived.Test.YtagieilahejobaaDieW
import Derived.Test.YtagieilahejobaaSortW
import Derived.Test.YtagieilahejobaaOpenD
import Derived.WalkKit
import Derived.WalkLawsBesides
import Derived.WalkSpells
import Derived.ProofKit
import Derived.OpenShut
import Derived.Deep.RegionWith
import Derived.Deep.QuietTactic
import Derived.BigQuiet
namespace Go.Proofs.Ytagieilahejobaa
open Go.ChangeShapes Go.WideShapes Go.ChangeAt Go.RowKit
open Go.ChangeMaps (open_string shut_string)

namespace WaysW
open Dice Arr DieW SortW Duel CmpW Know

/-- Below H all but block m stays. -/
structure But (H m : Nat) (w w' : World) : Prop where
  os : w'.os = w.os
  tape : w'.tape = w.tape
  output : w'.output = w.output
  size : w.heap.size ≤ w'.heap.size
  block : ∀ k, k < H → k ≠ m → w'.heap[k]? = w.heap[k]?
theorem But.of {H m : Nat} {w w' : World} (h : Below H w w') : But H m w w' := ⟨h.os, h.tape, h.output, h.size, fun k hk _ => h.block k hk⟩
theorem But.grown {H m : Nat} {w w' w'' : World} (h : But H m w w') (hH : H ≤ w'.heap.size) (hg : w'.grownBy w'' (some m)) : But H m w w'' :=
  ⟨hg.os.trans h.os, hg.tape.trans h.tape, hg.output.trans h.output, Nat.le_trans h.size hg.size, fun k hk hm => (hg.block k (by omega) (fun e => hm (by injection e))).trans (h.block k hk hm)⟩
theorem But.below {H m : Nat} {w w' w'' : World} (h : But H m w w') (hb : Below H w' w'') : But H m w w'' :=
  ⟨hb.os.trans h.os, hb.tape.trans h.tape, hb.output.trans h.output, Nat.le_trans h.size hb.size, fun k hk hm => (hb.block k hk).trans (h.block k hk hm)⟩
theorem But.out {m : Nat} {w w' : World} (h : But w.heap.size m w w') : w.grownBy w' (some m) := ⟨h.os, h.tape, h.output, h.size, fun k hk hm => h.block k hk (fun e => hm (by rw [e]))⟩
theorem At.same {w w' : World} {b n : Nat} {f : Nat → Int} (h : At w b n f) (hs : w.heap.size ≤ w'.heap.size) (e : w'.heap[b]? = w.heap[b]?) : At w' b n f :=
  ⟨Nat.lt_of_lt_of_le h.lt hs, fun k hk => (World.cell?_of_block (a := ⟨b, k, none⟩) e).trans (h.cell k hk), fun k => (World.frozen?_of_block (a := ⟨b, k, none⟩) e).trans (h.free k)⟩
theorem At.kept {w w' : World} {b n m : Nat} {f : Nat → Int} (h : At w b n f) (hg : w.grownBy w' (some m)) (hb : b ≠ m) : At w' b n f :=
  At.same h hg.size (hg.block b h.lt (fun e => hb (by injection e)))

theorem At.new3f (w : World) (t : TypeId) (f : Nat → Int) {b : Nat} (hb : b = w.heap.size) : At (w.alloc (.cells #[.int .i64 (f 0), .int .i64 (f 1), .int .i64 (f 2)] t)) b 3 f := by
  subst hb
  exact At.new w _ t 3 _ fun k hk => by
    obtain rfl | rfl | rfl : k = 0 ∨ k = 1 ∨ k = 2 := by omega
    all_goals rfl
theorem cmp_cls (a b : Int) : (cmp3 a b = 1 ∧ cls a b = 0) ∨ (cmp3 a b = 0 ∧ cls a b = 1) ∨ (cmp3 a b = -1 ∧ cls a b = 2) := by
  unfold cmp3 cls
  by_cases h1 : a < b
  · rw [if_pos h1, if_neg (by omega), if_neg (by omega)]; exact .inr (.inr ⟨rfl, rfl⟩)
  · rw [if_neg h1]
    by_cases h2 : b < a
    · rw [if_pos h2, if_pos h2]; exact .inl ⟨rfl, rfl⟩
    · rw [if_neg h2, if_neg h2, if_pos (by omega)]; exact .inr (.inl ⟨rfl, rfl⟩)
set_option maxRecDepth 100000 in
set_option maxHeartbeats 4000000 in
theorem waysOf_any (x y : Nat → Int) (hx : fits6 x) (hy : fits6 y) (m n : Nat) (hn : n ≤ 1000) (w : World) (hK : Known w m n) :
    Calls Try.prog 54 #[.map (some m), dv x, dv y] w fun e w' => e = .returned (tri (cw x y 36)) ∧ Known w' m (n + 2) ∧ w.grownBy w' (some m) := by
  have hml := hK.lt
  have hX := ((At.new6 w x 22 rfl).past (sixO y 22)).past (.cells #[.int .i64 0, .int .i64 0, .int .i64 0] 23)
  have hY := (At.new6 (w.alloc (sixO x 22)) y 22 (b := w.heap.size + 1) (by rw [size_alloc])).past (.cells #[.int .i64 0, .int .i64 0, .int .i64 0] 23)
  have hR := At.new3 ((w.alloc (sixO x 22)).alloc (sixO y 22)) 23 (b := w.heap.size + 2) (by rw [size_alloc, size_alloc])
  have hB := na (na (na (n0 w) (sixO x 22)) (sixO y 22)) (.cells #[.int .i64 0, .int .i64 0, .int .i64 0] 23)
  have hK3 := hK.up hB
  have hs3 : (((w.alloc (sixO x 22)).alloc (sixO y 22)).alloc (.cells #[.int .i64 0, .int .i64 0, .int .i64 0] 23)).heap.size = w.heap.size + 3 := by rw [size_alloc, size_alloc, size_alloc]
  unfold dv
  go_enter Try.func54, Try.ntmps54
  have hN := At.new3 (((w.alloc (sixO x 22)).alloc (sixO y 22)).alloc (.cells #[.int .i64 0, .int .i64 0, .int .i64 0] 23)) 23 (b := w.heap.size + 3) hs3.symm
  have hRn := (hR.past (.cells #[.int .i64 0, .int .i64 0, .int .i64 0] 23))
  rcases hK3.look hx hy with hrun | hrun
  · unfold tri at hrun
    have Hrun := Lib.hid hrun; clear hrun
    have Hc := Lib.hid cmp_any
    have hixx := fun (w : World) (k : Nat) (hk : k < 6) => run_index_vals (P := Try.prog) w 22 3 6 Try.underlying22 Try.underlying3 Try.sizeOf3 x hk
    simp only [← dv_vals] at hixx
    unfold dv at hixx
    have Hixx := Lib.hid hixx; clear hixx
    have hixy := fun (w : World) (k : Nat) (hk : k < 6) => run_index_vals (P := Try.prog) w 22 3 6 Try.underlying22 Try.underlying3 Try.sizeOf3 y hk
    simp only [← dv_vals] at hixy
    unfold dv at hixy
    have Hixy := Lib.hid hixy; clear hixy
    have hs4 : ((((w.alloc (sixO x 22)).alloc (sixO y 22)).alloc (.cells #[.int .i64 0, .int .i64 0, .int .i64 0] 23)).alloc (.cells #[.int .i64 0, .int .i64 0, .int .i64 0] 23)).heap.size = w.heap.size + 4 := by rw [size_alloc, hs3]
    have hX5 := (hX.past (.cells #[.int .i64 0, .int .i64 0, .int .i64 0] 23)).past (.cells #[.int .i64 0, .int .i64 0, .int .i64 0] 23)
    have hY5 := (hY.past (.cells #[.int .i64 0, .int .i64 0, .int .i64 0] 23)).past (.cells #[.int .i64 0, .int .i64 0, .int .i64 0] 23)
    have hR5 := hRn.past (.cells #[.int .i64 0, .int .i64 0, .int .i64 0] 23)
    have hW5 := At.new3 ((((w.alloc (sixO x 22)).alloc (sixO y 22)).alloc (.cells #[.int .i64 0, .int .i64 0, .int .i64 0] 23)).alloc (.cells #[.int .i64 0, .int .i64 0, .int .i64 0] 23)) 23 (b := w.heap.size + 4) hs4.symm
    have hB5 := na (na hB (.cells #[.int .i64 0, .int .i64 0, .int .i64 0] 23)) (.cells #[.int .i64 0, .int .i64 0, .int .i64 0] 23)
    obtain ⟨o0, o1, o2⟩ := three hN
    obtain ⟨z0, z1, z2⟩ := free3 hN
    have HK := Lib.hid hK; clear hK
    clear hK3 hR hX hY hB hRn hs3 hs4
    go_wp2_with (at_lookup; refine wp_look _ rfl _ _ _ _ rfl rfl rfl Hrun.out ?_)
    clear o0 o1 o2 z0 z1 z2 hN Hrun
    go_loopw [25] (fun iv wr => ∃ i : Nat, i ≤ 6 ∧ iv = .int .i64 i ∧ Below w.heap.size w wr ∧ At wr w.heap.size 6 x ∧ At wr (w.heap.size + 1) 6 y ∧ At wr (w.heap.size + 2) 3 (fun _ => 0) ∧ At wr (w.heap.size + 4) 3 (cw x y (6 * i))) (fun iv _ => 6 - (intOf iv).toNat)
    case atStart => exact ⟨0, by omega, rfl, hB5, hX5, hY5, hR5, hW5⟩
    case round =>
      clear hX5 hY5 hR5 hW5 hB5
      obtain ⟨i, hi, rfl, hB, hX, hY, hR, hO⟩ := hrel
      by_cases hlt : i < 6
      · have hit : decide ((i : Int) < 6) = true := decide_eq_true (by omega)
        have hix := fun w => Hixx.out w i hlt
        obtain ⟨y0, y1, y2, y3, y4, y5⟩ := hY.six
        go_wp2_with fail
        clear y0 y1 y2 y3 y4 y5
        go_loopw [29] (fun kv wr => ∃ k : Nat, k ≤ 6 ∧ kv = .int .i64 k ∧ Below w.heap.size w wr ∧ At wr w.heap.size 6 x ∧ At wr (w.heap.size + 1) 6 y ∧ At wr (w.heap.size + 2) 3 (fun _ => 0) ∧ At wr (w.heap.size + 4) 3 (cw x y (6 * i + k))) (fun kv _ => 6 - (intOf kv).toNat)
        case atStart => exact ⟨0, by omega, rfl, hB, hX, hY, hR, hO⟩
        case round =>
          clear hX hY hR hO hB
          obtain ⟨k, hk, rfl, hB, hX, hY, hR, hO⟩ := hrel
          by_cases hlk : k < 6
          · have hkt : decide ((k : Int) < 6) = true := decide_eq_true (by omega)
            have hixk := fun w => Hixy.out w k hlk
            obtain ⟨o0, o1, o2⟩ := three hO
            obtain ⟨z0, z1, z2⟩ := free3 hO
            have Hcw := Lib.hid (cw_at x y i hlk)
            have b0 := cw_bound x y (6 * i + k) 0
            have b1 := cw_bound x y (6 * i + k) 1
            have b2 := cw_bound x y (6 * i + k) 2
            have Hck := Lib.hid (Hc.out (x i) (y k))
            rcases cmp_cls (x i) (y k) with ⟨e3, hcl⟩ | ⟨e3, hcl⟩ | ⟨e3, hcl⟩
            · rw [e3] at Hck
              have Hcl := Lib.hid hcl; clear hcl e3
              go_wp2_with fail
              refine (Hck.out _).mono ?_
              rintro e w2 ⟨rfl, rfl⟩
              go_wp2_with fail
              go_roundw
              case rel => exact ⟨k + 1, by omega, by go_num, hB.setCell (p := ⟨w.heap.size + 4, 0, none⟩) (by show w.heap.size ≤ w.heap.size + 4; omega) _, hX.other (by omega) _ _, hY.other (by omega) _ _, hR.other (by omega) _ _, by rw [Hcw.out, Hcl.out]; exact hO.set (by omega) _⟩
              case measure => simp [intOf]; omega
            · rw [e3] at Hck
              have Hcl := Lib.hid hcl; clear hcl e3
              go_wp2_with fail
              refine (Hck.out _).mono ?_
              rintro e w2 ⟨rfl, rfl⟩
              go_wp2_with fail
              go_roundw
              case rel => exact ⟨k + 1, by omega, by go_num, hB.setCell (p := ⟨w.heap.size + 4, 1, none⟩) (by show w.heap.size ≤ w.heap.size + 4; omega) _, hX.other (by omega) _ _, hY.other (by omega) _ _, hR.other (by omega) _ _, by rw [Hcw.out, Hcl.out]; exact hO.set (by omega) _⟩
              case measure => simp [intOf]; omega
            · rw [e3] at Hck
              have Hcl := Lib.hid hcl; clear hcl e3
              go_wp2_with fail
              refine (Hck.out _).mono ?_
              rintro e w2 ⟨rfl, rfl⟩
              go_wp2_with fail
              go_roundw
              case rel => exact ⟨k + 1, by omega, by go_num, hB.setCell (p := ⟨w.heap.size + 4, 2, none⟩) (by show w.heap.size ≤ w.heap.size + 4; omega) _, hX.other (by omega) _ _, hY.other (by omega) _ _, hR.other (by omega) _ _, by rw [Hcw.out, Hcl.out]; exact hO.set (by omega) _⟩
              case measure => simp [intOf]; omega
          · obtain rfl : k = 6 := by omega
            have hkt : decide (((6 : Nat) : Int) < 6) = false := rfl
            go_wp2_with fail
            go_roundw
            case rel => exact ⟨i + 1, by omega, by go_num, hB, hX, hY, hR, by rw [show 6 * (i + 1) = 6 * i + 6 by omega]; exact hO⟩
            case measure => simp [intOf]; omega
      · obtain rfl : i = 6 := by omega
        obtain ⟨w1, hs1, hK1, hg1⟩ := (HK.out.up hB).store (by unfold maxLen; omega) hx hy (f := cw x y 36) (fun _ _ => rfl)
        obtain ⟨w2, hs2, hK2, hg2⟩ := hK1.store (by unfold maxLen; omega) hy hx (f := back (cw x y 36)) (back_cw x y)
        have hO36 : At wr (w.heap.size + 4) 3 (cw x y 36) := hO
        have hX1 := At.kept hX hg1 (by omega)
        have hY1 := At.kept hY hg1 (by omega)
        have hO1 := At.kept hO36 hg1 (by omega)
        have hO2 := At.kept hO1 hg2 (by omega)
        have hR2 := At.kept (At.kept hR hg1 (by omega)) hg2 (by omega)
        have hBut := ((But.of (m := m) hB).grown hB.size hg1).grown (Nat.le_trans hB.size hg1.size) hg2
        have HBut := Lib.hid hBut; clear hBut hg1 hg2
        have HK2 := Lib.hid hK2; clear hK1 hK2
        have Hs1 := Lib.hid hs1; clear hs1
        have Hs2 := Lib.hid hs2; clear hs2
        obtain ⟨x0, x1, x2, x3, x4, x5⟩ := hX.six
        obtain ⟨y0, y1, y2, y3, y4, y5⟩ := hY.six
        obtain ⟨o0, o1, o2⟩ := three hO36
        obtain ⟨a0, a1, a2, a3, a4, a5⟩ := hX1.six
        obtain ⟨b0, b1, b2, b3, b4, b5⟩ := hY1.six
        obtain ⟨p0, p1, p2⟩ := three hO1
        obtain ⟨q0, q1, q2⟩ := three hO2
        obtain ⟨r0, r1, r2⟩ := three hR2
        obtain ⟨z0, z1, z2⟩ := free3 hR2
        go_wp2_with (at_mapUpdate; first | refine wp_store _ rfl _ _ _ _ rfl rfl rfl rfl Hs1.out ?_ | refine wp_store _ rfl _ _ _ _ rfl rfl rfl rfl Hs2.out ?_)
        have hBe := setCells_below (w := w2) (p := w.heap.size + 2) (B := w.heap.size) (by omega) (vals 3 (cw x y 36)) 0
        refine ret_cell (b := w.heap.size + 2) (n := 3) (f := cw x y 36) Try.results54 rfl Try.underlying23 (by kernel_rfl) (hR2.stored _) rfl ⟨rfl, HK2.out.same (hBe.block m hml), (HBut.out.below hBe).out⟩
  · unfold tri at hrun
    have Hrun := Lib.hid hrun; clear hrun
    obtain ⟨o0, o1, o2⟩ := three hN
    obtain ⟨z0, z1, z2⟩ := free3 hN
    obtain ⟨r0, r1, r2⟩ := three hRn
    obtain ⟨q0, q1, q2⟩ := free3 hRn
    have hRf := (At.new3f ((w.alloc (sixO x 22)).alloc (sixO y 22)) 23 (cw x y 36) (b := w.heap.size + 2) (by rw [size_alloc, size_alloc])).past (.cells #[.int .i64 (cw x y 36 0), .int .i64 (cw x y 36 1), .int .i64 (cw x y 36 2)] 23)
    have hBf := na (na (na (na (n0 w) (sixO x 22)) (sixO y 22)) (.cells #[.int .i64 (cw x y 36 0), .int .i64 (cw x y 36 1), .int .i64 (cw x y 36 2)] 23)) (.cells #[.int .i64 (cw x y 36 0), .int .i64 (cw x y 36 1), .int .i64 (cw x y 36 2)] 23)
    have HBf := Lib.hid hBf; clear hBf
    have HRf := Lib.hid hRf; clear hRf
    have HK := Lib.hid hK; clear hK
    clear hK3 hR hX hY hB hRn hs3
    go_wp2_with (at_lookup; refine wp_look _ rfl _ _ _ _ rfl rfl rfl Hrun.out ?_)
    exact ret_cell (b := w.heap.size + 2) (n := 3) (f := cw x y 36) Try.results54 rfl Try.underlying23 (by kernel_rfl) HRf.out rfl ⟨rfl, (HK.out.up HBf.out).mono (by omega), (But.of HBf.out).out⟩


end WaysW
end Go.Proofs.Ytagieilahejobaa
