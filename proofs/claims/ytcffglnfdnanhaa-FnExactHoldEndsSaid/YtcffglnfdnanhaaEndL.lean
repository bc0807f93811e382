/-
  Lists of endings: compared, marked, held.
-/
import Derived.Test.YtcffglnfdnanhaaRows
import Derived.Test.YtcffglnfdnanhaaArr
import Derived.Test.YtcffglnfdnanhaaDieW
import Derived.Test.YtcffglnfdnanhaaFracW
import Derived.Test.YtcffglnfdnanhaaOwnL
import Derived.Test.YtcffglnfdnanhaaRunS
import Derived.Test.YtcffglnfdnanhaaOpenD
import Derived.WalkKit
import Derived.OwnWalk
import Derived.WalkLawsBesides
import Derived.WalkSpells
import Derived.ProofKit
import Derived.OpenShut
import Derived.Deep.RegionWith
import Derived.Deep.QuietTactic
import Derived.BigQuiet
namespace Go.Proofs.Ytcffglnfdnanhaa
open Go.ChangeShapes Go.WideShapes Go.ChangeAt Go.RowKit
open Go.Deep
open Go.ChangeMaps (open_string shut_string)

namespace EndL
open Dice Arr DieW FracW OwnL RunS


def e3 (x y z : Int) : Nat → Int := fun k => if k = 0 then x else if k = 1 then y else z
abbrev ev (x y z : Int) : Value := .agg #[.int .i64 x, .int .i64 y, .int .i64 z]
theorem At.new3 (w : World) (x y z : Int) : At (w.alloc (.cells #[.int .i64 x, .int .i64 y, .int .i64 z] 79)) w.heap.size 3 (e3 x y z) :=
  At.new w _ _ 3 _ fun k hk => by
    obtain rfl | rfl | rfl : k = 0 ∨ k = 1 ∨ k = 2 := by omega
    all_goals rfl
/-- A list of m endings in memory from block B on. -/
def EndAt (B : Nat) (w : World) (A : Option Addr) (m : Nat) (f : Nat → Int) : Prop := m = 0 ∨ ∃ b, A = some ⟨b, 0, none⟩ ∧ B ≤ b ∧ At w b (m * 3) f
theorem EndAt.up {B : Nat} {w w' : World} {A : Option Addr} {m : Nat} {f : Nat → Int} (h : EndAt B w A m f) (hb : Below w.heap.size w w') : EndAt B w' A m f := by
  rcases h with h | ⟨b, hA, hB, h⟩
  · exact .inl h
  · exact .inr ⟨b, hA, hB, h.up hb⟩
theorem EndAt.mono {B B' : Nat} {w : World} {A : Option Addr} {m : Nat} {f : Nat → Int} (h : EndAt B w A m f) (hB' : B' ≤ B) : EndAt B' w A m f := by
  rcases h with h | ⟨b, hA, hB, h⟩
  · exact .inl h
  · exact .inr ⟨b, hA, by omega, h⟩
theorem EndAt.kept {B g0 : Nat} {w w' : World} {A : Option Addr} {m : Nat} {f : Nat → Int} (h : EndAt B w A m f) (hg : w.grownBy w' (some g0)) (h0 : g0 < B) : EndAt B w' A m f := by
  rcases h with h | ⟨b, hA, hB, h⟩
  · exact .inl h
  · exact .inr ⟨b, hA, hB, keptO h hg (fun e => by injection e with e; omega)⟩
theorem EndAt.at_ {B : Nat} {w : World} {A : Option Addr} {m : Nat} {f : Nat → Int} (h : EndAt B w A m f) (hm : 0 < m) : ∃ b, A = some ⟨b, 0, none⟩ ∧ B ≤ b ∧ At w b (m * 3) f := by
  rcases h with h | h
  · omega
  · exact h
theorem size3' : (Try.prog.info? 79).map (·.size) = some 3 := by kernel_rfl
theorem load_off3 {w : World} {b o : Nat} {x y z : Int} (h0 : w.cell? ⟨b, o, none⟩ = some (.int .i64 x)) (h1 : w.cell? ⟨b, o + 1, none⟩ = some (.int .i64 y)) (h2 : w.cell? ⟨b, o + 2, none⟩ = some (.int .i64 z)) : (loadVar 79 ⟨b, o, none⟩).run Try.prog w = .ok (ev x y z) w := by
  have hl : (loadCells ⟨b, o, none⟩ 3).run Try.prog w = .ok (vals 3 (e3 x y z)).toArray w :=
    run_loadCells (P := Try.prog) w ⟨b, o, none⟩ 3 (fun k => .int .i64 (e3 x y z k)) (fun j hj => by
      rw [add_plain]
      obtain rfl | rfl | rfl : j = 0 ∨ j = 1 ∨ j = 2 := by omega
      · exact h0
      · exact h1
      · exact h2)
  cases hq : Try.prog.info? 79 with
  | none => have := size3'; simp [hq] at this
  | some i =>
    have hs : i.size = 3 := by have := size3'; simpa [hq] using this
    have hagg : (isAgg 79).run Try.prog w = .ok true w := by
      unfold isAgg
      rw [Sem.run_bind, run_underlying Try.underlying79 w]
      simp_all
    simp [Go.loadVar, Sem.run_bind, hagg, sizeOf, typeInfo, hq, hs, hl]
    rfl
section
variable {C : World → Prop} {K : Act → Prop} {a : Act} {o : Oper}
theorem quiet_ld3 (x : Operand) (ho : o.op = .load 79 x) {b off : Nat} {u v z : Int} (hx : a.eval x = .pointer (some ⟨b, off, none⟩)) (hC : ∀ w, C w → w.cell? ⟨b, off, none⟩ = some (.int .i64 u) ∧ w.cell? ⟨b, off + 1, none⟩ = some (.int .i64 v) ∧ w.cell? ⟨b, off + 2, none⟩ = some (.int .i64 z))
    (hk : K (a.put o.dst (ev u v z))) : o.quiet Try.prog a C K :=
  ⟨ev u v z, fun w hw => by
    have hld := load_off3 (hC w hw).1 (hC w hw).2.1 (hC w hw).2.2
    unfold Oper.quietAt execOp
    simp only [ho, hx, Instr.loadAt, Instr.sureAddr, Sem.run_bind, Sem.run_pure, Result.andThen_ok, hld]
    exact ⟨rfl, rfl⟩, hk⟩
end
theorem end_cells {w : World} {b m k : Nat} {f : Nat → Int} (h : At w b (m * 3) f) (hk : k < m) : w.cell? ⟨b, k * 3, none⟩ = some (.int .i64 (f (k * 3))) ∧ w.cell? ⟨b, k * 3 + 1, none⟩ = some (.int .i64 (f (k * 3 + 1))) ∧ w.cell? ⟨b, k * 3 + 2, none⟩ = some (.int .i64 (f (k * 3 + 2))) := ⟨h.cell _ (by omega), h.cell _ (by omega), h.cell _ (by omega)⟩

set_option maxRecDepth 100000 in
set_option maxHeartbeats 4000000 in
theorem eqEnd_any (x y z : Int) (w : World) :
    Calls Try.prog 76 #[ev x y z, ev x y z] w fun e w' => e = .returned (.bool true) ∧ Below w.heap.size w w' := by
  have He := Lib.hid (fun x y w => eqA2_any x y w)
  have hA := (At.new3 w x y z).past (.cells #[.int .i64 x, .int .i64 y, .int .i64 z] 79)
  have hC := At.new3 (w.alloc (.cells #[.int .i64 x, .int .i64 y, .int .i64 z] 79)) x y z
  rw [size_alloc] at hC
  have hB := na (na (n0 w) (.cells #[.int .i64 x, .int .i64 y, .int .i64 z] 79)) (.cells #[.int .i64 x, .int .i64 y, .int .i64 z] 79)
  go_enter Try.func76, Try.ntmps76
  go_wp2_with fail
  generalize (w.alloc (.cells #[.int .i64 x, .int .i64 y, .int .i64 z] 79)).alloc (.cells #[.int .i64 x, .int .i64 y, .int .i64 z] 79) = W at *
  have q0 := hA.cell 0 (by omega)
  have q1 := hA.cell 1 (by omega)
  have q2 := hA.cell 2 (by omega)
  have q3 := hC.cell 0 (by omega)
  have q4 := hC.cell 1 (by omega)
  have q5 := hC.cell 2 (by omega)
  rw [show e3 x y z 0 = x from rfl] at q0 q3
  rw [show e3 x y z 1 = y from rfl] at q1 q4
  rw [show e3 x y z 2 = z from rfl] at q2 q5
  go_wp2_with fail
  refine (He.out _ _ _).mono ?_
  rintro e w1 ⟨rfl, hb1⟩
  go_wp2_with fail
  go_ret
  exact ⟨rfl, nx hB hb1⟩

set_option maxRecDepth 100000 in
set_option maxHeartbeats 4000000 in
theorem eqEndS_any (B B' : Nat) (A A' : Option Addr) (m c c' : Nat) (f : Nat → Int) (w : World) (h : EndAt B w A m f) (h' : EndAt B' w A' m f) (hm : m ≤ 1000) :
    Calls Try.prog 37 #[.slice A m c, .slice A' m c'] w fun e w' => e = .returned (.bool true) ∧ Below w.heap.size w w' := by
  have H := Lib.hid h; clear h
  have H' := Lib.hid h'; clear h'
  have He := Lib.hid (fun x y z w => eqEnd_any x y z w)
  go_enter Try.func37, Try.ntmps37
  go_wp2_with fail
  go_loopw [5] (fun i wr => ∃ k : Nat, k ≤ m ∧ i = .int .i64 k ∧ Below w.heap.size w wr) (fun i _ => m - (intOf i).toNat)
  case atStart => exact ⟨0, Nat.zero_le _, rfl, n0 w⟩
  case round =>
    obtain ⟨k, hk, rfl, hB⟩ := hrel
    by_cases hlt : k < m
    · obtain ⟨g, rfl, _, hA1⟩ := H.out.at_ (show 0 < m by omega)
      obtain ⟨g', rfl, _, hA2⟩ := H'.out.at_ (show 0 < m by omega)
      have hit : decide (k < m) = true := decide_eq_true hlt
      go_wp2_with fail
      refine wp_region_quiet (C := fun w' => Below w.heap.size w w') (by kernel_rfl) (by kernel_rfl) hB.drew ?_
      clear hB
      refine BigFrame.wpQuiet_want rfl (fun K hK => BigFrame.quiet_move _ rfl (hK _ ?_)); clear hK K; go_simp
      refine BigFrame.wpQuiet_want rfl (fun K hK => BigFrame.quiet_move _ rfl (hK _ ?_)); clear hK K; go_simp
      refine BigFrame.wpQuiet_want rfl (fun K hK => ?_); go_big_quiet_op; refine ⟨_, by intros; rfl, hK _ ?_⟩; clear hK K; go_simp
      refine BigFrame.wpQuiet_want rfl (fun K hK => quiet_ld3 _ rfl rfl (fun _ h => end_cells (hA1.up h) hlt) (hK _ ?_)); clear hK K; go_simp
      refine BigFrame.wpQuiet_want rfl (fun K hK => BigFrame.quiet_move _ rfl (hK _ ?_)); clear hK K; go_simp
      refine BigFrame.wpQuiet_want rfl (fun K hK => BigFrame.quiet_move _ rfl (hK _ ?_)); clear hK K; go_simp
      refine BigFrame.wpQuiet_want rfl (fun K hK => ?_); go_big_quiet_op; refine ⟨_, by intros; rfl, hK _ ?_⟩; clear hK K; go_simp
      refine BigFrame.wpQuiet_want rfl (fun K hK => quiet_ld3 _ rfl rfl (fun _ h => end_cells (hA2.up h) hlt) (hK _ ?_)); clear hK K; go_simp
      refine BigFrame.wpQuiet_want rfl (fun K hK => ⟨.bool true, fun w' hw' => ?_, hK _ ?_⟩)
      · clear hK K
        have Hw := Lib.hid hw'; clear hw'
        go_simp
        refine (He.out _ _ _ _).mono ?_
        rintro e w5 ⟨rfl, hb⟩
        exact ⟨rfl, nx Hw.out hb⟩
      clear hK K; go_simp
      refine BigFrame.wpQuiet_want rfl (fun K hK => ?_); go_big_quiet_op; refine ⟨_, by intros; rfl, hK _ ?_⟩; clear hK K; go_simp
      refine wpQuiet_nil ?_
      intro w3 hB
      go_wp2_with fail
      go_roundw
      case rel => exact ⟨k + 1, by omega, by go_num, hB⟩
      case measure => simp [intOf]; omega
    · obtain rfl : k = m := by omega
      go_wp2_with fail
      go_ret
      exact ⟨rfl, hB⟩

set_option maxHeartbeats 2000000 in
theorem markEndS_any (B : Nat) (A : Option Addr) (m c : Nat) (f : Nat → Int) (w : World) (h : EndAt B w A m f) (hm : m ≤ 1000) :
    Calls Try.prog 38 #[.slice A m c, .int .i64 1] w fun e w' => e = .returned (.int .i64 (1 + 3 * (m : Int))) ∧ EndAt B w' A m (fun t => 1 + (t : Int)) ∧ Below B w w' := by
  by_cases h0 : m = 0
  · subst h0
    clear h
    go_enter Try.func38, Try.ntmps38
    go_wp2_with fail
    go_loopw [1, 5] (fun kv i wr => i = .int .i64 0 ∧ kv = .int .i64 1 ∧ wr = w) (fun _ _ _ => 0)
    case atStart => exact ⟨rfl, rfl, rfl⟩
    case round =>
      obtain ⟨rfl, rfl, rfl⟩ := hrel
      go_wp2_with fail
      go_ret
      exact ⟨rfl, .inl rfl, Below.refl _ _⟩
  · obtain ⟨g, rfl, hB, hA⟩ := h.at_ (by omega)
    clear h
    go_enter Try.func38, Try.ntmps38
    go_wp2_with fail
    go_loopw [1, 5] (fun kv i wr => ∃ (j : Nat) (f : Nat → Int), j ≤ m ∧ i = .int .i64 j ∧ kv = .int .i64 (1 + 3 * (j : Int)) ∧ At wr g (m * 3) f ∧ Below B w wr ∧ Hid (∀ t, t < 3 * j → f t = 1 + (t : Int))) (fun _ i _ => m - (intOf i).toNat)
    case atStart => exact ⟨0, f, Nat.zero_le _, rfl, by simp, hA, Below.refl _ _, fun t ht => by omega⟩
    case round =>
      clear hA
      obtain ⟨j, f0, hj, rfl, rfl, hA0, hR0, he0⟩ := hrel
      by_cases hlt : j < m
      · have hit : decide ((j : Int) < (m : Int)) = true := decide_eq_true (by omega)
        have hj0 : j * 3 < m * 3 := by omega
        have cj := hA0.cell (j * 3) hj0
        have zj := hA0.free (j * 3)
        have hA1 := hA0.set hj0 (1 + 3 * (j : Int))
        have hR1 := hR0.setCell (p := ⟨g, j * 3, none⟩) hB (.int .i64 (1 + 3 * (j : Int)))
        have he1 : Hid (∀ t, t < 3 * j + 1 → put f0 (j * 3) (1 + 3 * (j : Int)) t = 1 + (t : Int)) := fun t ht => by
          by_cases htj : t = j * 3
          · subst htj
            rw [put_same]
            omega
          · rw [put_other _ htj]
            exact he0.out t (by omega)
        clear hA0 hR0 he0
        go_wp2_with fail
        clear cj zj
        go_loopw [1, 6] (fun kv i wr => ∃ (k : Nat) (f : Nat → Int), k ≤ 2 ∧ i = .int .i64 k ∧ kv = .int .i64 (1 + 3 * (j : Int) + 1 + k) ∧ At wr g (m * 3) f ∧ Below B w wr ∧ Hid (∀ t, t < 3 * j + 1 + k → f t = 1 + (t : Int))) (fun _ i _ => 2 - (intOf i).toNat)
        case atStart => exact ⟨0, _, Nat.zero_le _, rfl, by simp, hA1, hR1, fun t ht => he1.out t (by omega)⟩
        case round =>
          clear hA1 hR1 he1
          obtain ⟨k, f, hk, rfl, rfl, hA, hR, he⟩ := hrel
          by_cases hk2 : k < 2
          · have hjk : j * 3 + 1 + k < m * 3 := by omega
            have cj := hA.cell (j * 3 + 1 + k) hjk
            have zj := hA.free (j * 3 + 1 + k)
            go_wp2_with fail
            go_roundw
            case rel =>
              refine ⟨k + 1, put f (j * 3 + 1 + k) (1 + 3 * (j : Int) + 1 + k), by omega, by go_num, by congr 1, hA.set hjk _, hR.setCell (p := ⟨g, j * 3 + 1 + k, none⟩) hB _, fun t ht => ?_⟩
              by_cases htj : t = j * 3 + 1 + k
              · subst htj
                rw [put_same]
                omega
              · rw [put_other _ htj]
                exact he.out t (by omega)
            case measure => simp [intOf]; omega
          · obtain rfl : k = 2 := by omega
            go_wp2_with fail
            go_roundw
            case rel => exact ⟨j + 1, f, by omega, by go_num, by congr 1, hA, hR, fun t ht => he.out t (by omega)⟩
            case measure => simp [intOf]; omega
      · obtain rfl : j = m := by omega
        go_wp2_with fail
        go_ret
        exact ⟨rfl, .inr ⟨g, rfl, hB, hA0.congr fun t ht => he0.out t (by omega)⟩, hR0⟩

set_option maxHeartbeats 2000000 in
theorem heldEndS_any (B : Nat) (A : Option Addr) (m c : Nat) (w : World) (h : EndAt B w A m (fun t => 1 + (t : Int))) (hm : m ≤ 1000) :
    Calls Try.prog 39 #[.slice A m c, .int .i64 1] w fun e w' => e = .returned (.int .i64 (1 + 3 * (m : Int))) ∧ Below w.heap.size w w' := by
  have H := Lib.hid h; clear h
  go_enter Try.func39, Try.ntmps39
  go_wp2_with fail
  go_loopw [1, 5] (fun kv i wr => ∃ j : Nat, j ≤ m ∧ i = .int .i64 j ∧ kv = .int .i64 (1 + 3 * (j : Int)) ∧ wr = w) (fun _ i _ => m - (intOf i).toNat)
  case atStart => exact ⟨0, Nat.zero_le _, rfl, by simp, rfl⟩
  case round =>
    obtain ⟨j, hj, rfl, rfl, rfl⟩ := hrel
    by_cases hlt : j < m
    · have hit : decide ((j : Int) < (m : Int)) = true := decide_eq_true (by omega)
      obtain ⟨g, rfl, _, hA⟩ := H.out.at_ (show 0 < m by omega)
      have ct := hA.cell (j * 3) (by omega)
      have ect : ((1 : Int) + ((j * 3 : Nat) : Int)) = 1 + 3 * (j : Int) := by omega
      rw [ect] at ct
      clear ect
      go_wp2_with fail
      obtain ⟨W0, rfl⟩ : ∃ W0, W0 = wr := ⟨wr, rfl⟩
      go_loopw [1, 6] (fun kv i wr => ∃ k : Nat, k ≤ 2 ∧ i = .int .i64 k ∧ kv = .int .i64 (1 + 3 * (j : Int) + 1 + k) ∧ wr = W0) (fun _ i _ => 2 - (intOf i).toNat)
      case atStart => exact ⟨0, Nat.zero_le _, rfl, by simp, rfl⟩
      case round =>
        obtain ⟨k, hk, rfl, rfl, rfl⟩ := hrel
        by_cases hk2 : k < 2
        · have cj := hA.cell (j * 3 + 1 + k) (by omega)
          have ecj : ((1 : Int) + ((j * 3 + 1 + k : Nat) : Int)) = 1 + 3 * (j : Int) + 1 + k := by omega
          rw [ecj] at cj
          clear ecj
          go_wp2_with fail
          go_roundw
          case rel => exact ⟨k + 1, by omega, by go_num, by congr 1, by first | rfl | trivial⟩
          case measure => simp [intOf]; omega
        · obtain rfl : k = 2 := by omega
          go_wp2_with fail
          go_roundw
          case rel => exact ⟨j + 1, by omega, by go_num, by congr 1, by first | rfl | trivial⟩
          case measure => simp [intOf]; omega
    · obtain rfl : j = m := by omega
      go_wp2_with fail
      go_ret
      exact ⟨rfl, Below.refl _ _⟩
theorem ends_own {w : World} {B n : Nat} {v : Value} {f : Nat → Int} (h : w.ownsRow B 79 3 v n (vals (n * 3) f)) : ∃ A c, v = .slice A n c ∧ EndAt B w A n f := by
  rcases h.2 with ⟨rfl, h0⟩ | ⟨g, cap, cur, rfl, hb, hg, hnc, hcm, hcs, htake⟩
  · exact ⟨none, 0, by rw [h0], .inl h0⟩
  · exact ⟨_, cap, rfl, .inr ⟨g, rfl, hb, (Array.getElem?_eq_some_iff.1 hg).1, fun k hk => (h.cellAt k hk).trans (vals_get hk), fun k => h.frozenAt k⟩⟩
theorem info3 : (Try.prog.info? 79).map (fun i => (i.zero, i.size, i.bytes)) = some (some (.agg #[.int .i64 0, .int .i64 0, .int .i64 0]), 3, 24) := by kernel_rfl


end EndL
end Go.Proofs.Ytcffglnfdnanhaa
