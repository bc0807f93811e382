/-
  Lists of patterns: compared, marked, held.
-/
import Derived.Test.YtbcaahaaaodhkaaRows
import Derived.Test.YtbcaahaaaodhkaaKeysW
import Derived.Test.YtbcaahaaaodhkaaPKey
import Derived.Test.YtbcaahaaaodhkaaShelfS4
import Derived.Test.YtbcaahaaaodhkaaPatC
import Derived.Test.YtbcaahaaaodhkaaPatS
import Derived.Test.YtbcaahaaaodhkaaPatsI
import Derived.Test.YtbcaahaaaodhkaaPlS
import Derived.Test.YtbcaahaaaodhkaaPatI
import Derived.Test.YtbcaahaaaodhkaaPlI
import Derived.Test.YtbcaahaaaodhkaaFour
import Derived.Test.YtbcaahaaaodhkaaPatM
import Derived.Test.YtbcaahaaaodhkaaSortDn
import Derived.Test.YtbcaahaaaodhkaaPlaces
import Derived.Test.YtbcaahaaaodhkaaRollWM
import Derived.Test.YtbcaahaaaodhkaaIntsM
import Derived.Test.YtbcaahaaaodhkaaPoolW
import Derived.Test.YtbcaahaaaodhkaaAll6
import Derived.Test.YtbcaahaaaodhkaaDicesW
import Derived.Test.YtbcaahaaaodhkaaOpenD
import Derived.WalkKit
import Derived.WalkLawsBesides
import Derived.WalkSpells
import Derived.ProofKit
import Derived.OpenShut
import Derived.Deep.RegionWith
import Derived.Deep.QuietTactic
import Derived.BigQuiet
namespace Go.Proofs.Ytbcaahaaaodhkaa
open Go.ChangeShapes Go.WideShapes Go.ChangeAt Go.RowKit
open Go.ChangeMaps (open_string shut_string)

namespace FoursW
open Dice Arr OpenD DieW SortW DicesW PoolW All6 IntsW RollW Places PatM SortDn PlI Four PatI PatsI PlS PatS PatC PKey KeysW

theorem At.same {w w' : World} {b n : Nat} {f : Nat → Int} (h : At w b n f) (hs : w.heap.size ≤ w'.heap.size) (e : w'.heap[b]? = w.heap[b]?) : At w' b n f :=
  ⟨Nat.lt_of_lt_of_le h.lt hs, fun k hk => (World.cell?_of_block (a := ⟨b, k, none⟩) e).trans (h.cell k hk), fun k => (World.frozen?_of_block (a := ⟨b, k, none⟩) e).trans (h.free k)⟩
theorem At.kept {w w' : World} {b n m : Nat} {f : Nat → Int} (h : At w b n f) (hg : w.grownBy w' (some m)) (hb : b ≠ m) : At w' b n f :=
  At.same h hg.size (hg.block b h.lt (fun e => hb (by injection e)))

theorem grown_set {w w' : World} {g j : Nat} {v : Value} (h : w.grownBy w' (some g)) : w.grownBy (w'.setCell ⟨g, j, none⟩ v) (some g) :=
  ⟨h.os, h.tape, h.output, by rw [World.size_setCell]; exact h.size, fun k hk hne => (heap_setCell_other _ _ _ _ (fun e => hne (by rw [e]))).trans (h.block k hk hne)⟩
theorem grown_of {w w' : World} {B : Nat} (h : Below B w w') (hB : w.heap.size ≤ B) (row : Option Nat) : w.grownBy w' row := ⟨h.os, h.tape, h.output, h.size, fun k hk _ => h.block k (by omega)⟩
theorem keep_none (v : Value) : v.ownBlock = none ∨ v.ownBlock ≠ none := by cases v.ownBlock <;> simp
theorem Fours.kept {B g0 : Nat} {w w' : World} {A : Option Addr} {m : Nat} {f : Nat → Int} (h : Fours B w A m f) (hg : w.grownBy w' (some g0)) (h0 : g0 < B) : Fours B w' A m f := by
  rcases h with h | ⟨b, hA, hB, h⟩
  · exact .inl h
  · exact .inr ⟨b, hA, hB, At.kept h hg (by omega)⟩
theorem size4' : (Try.prog.info? 23).map (·.size) = some 4 := by kernel_rfl
theorem load_off4 {w : World} {b o m : Nat} {f : Nat → Int} (h : At w b m f) (ho : o + 4 ≤ m) : (loadVar 23 ⟨b, o, none⟩).run Try.prog w = .ok (v4 fun k => f (o + k)) w := by
  have hl : (loadCells ⟨b, o, none⟩ 4).run Try.prog w = .ok (vals 4 (fun k => f (o + k))).toArray w :=
    run_loadCells (P := Try.prog) w ⟨b, o, none⟩ 4 (fun k => .int .i64 (f (o + k))) (fun j hj => by
      rw [add_plain]
      exact h.cell _ (by omega))
  cases hq : Try.prog.info? 23 with
  | none => have := size4'; simp [hq] at this
  | some i =>
    have hs : i.size = 4 := by have := size4'; simpa [hq] using this
    have hagg : (isAgg 23).run Try.prog w = .ok true w := by
      unfold isAgg
      rw [Sem.run_bind, run_underlying Try.underlying23 w]
      simp_all
    simp [Go.loadVar, Sem.run_bind, hagg, sizeOf, typeInfo, hq, hs, hl]
    rfl
section
variable {C : World → Prop} {K : Act → Prop} {a : Act} {o : Oper}
/-- A pattern of a list read, in every world of the class. -/
theorem quiet_ld4 (x : Operand) (ho : o.op = .load 23 x) {b off m : Nat} {f : Nat → Int} (hx : a.eval x = .pointer (some ⟨b, off, none⟩)) (hm : off + 4 ≤ m) (hC : ∀ w, C w → At w b m f)
    (hk : K (a.put o.dst (v4 fun k => f (off + k)))) : o.quiet Try.prog a C K :=
  ⟨v4 fun k => f (off + k), fun w hw => by
    have hld := load_off4 (hC w hw) hm
    unfold Oper.quietAt execOp
    simp only [ho, hx, Instr.loadAt, Instr.sureAddr, Sem.run_bind, Sem.run_pure, Result.andThen_ok, hld]
    exact ⟨rfl, rfl⟩, hk⟩
end

set_option maxHeartbeats 1000000 in
theorem markDice_grown (g n c K : Nat) (f : Nat → Int) (w : World) (h : At w g (n * 6) f) (hn : n ≤ 1048576) (hK : K ≤ 1048576) :
    Calls Try.prog 22 #[.slice (some ⟨g, 0, none⟩) n c, .int .i64 K] w fun e w' => e = .returned (.int .i64 ((K : Int) + 6 * n)) ∧ (∃ f, At w' g (n * 6) f) ∧ w.grownBy w' (some g) := by
  go_enter Try.func22, Try.ntmps22
  go_wp2_with fail
  go_loopw [1, 5] (fun kv i wr => ∃ (j : Nat) (f : Nat → Int), j ≤ n ∧ i = .int .i64 j ∧ kv = .int .i64 ((K : Int) + 6 * j) ∧ At wr g (n * 6) f ∧ w.grownBy wr (some g)) (fun _ i _ => n - (intOf i).toNat)
  case atStart => exact ⟨0, f, Nat.zero_le _, rfl, by simp, h, World.grownBy.refl w _⟩
  case round =>
    clear h
    obtain ⟨j, f0, hj, rfl, rfl, hA0, hR0⟩ := hrel
    by_cases hlt : j < n
    · have hit : decide ((j : Int) < (n : Int)) = true := decide_eq_true (by omega)
      go_wp2_with fail
      go_loopw [1, 6] (fun kv i wr => ∃ (k : Nat) (f : Nat → Int), k ≤ 6 ∧ i = .int .i64 k ∧ kv = .int .i64 ((K : Int) + 6 * j + k) ∧ At wr g (n * 6) f ∧ w.grownBy wr (some g)) (fun _ i _ => 6 - (intOf i).toNat)
      case atStart => exact ⟨0, f0, Nat.zero_le _, rfl, by simp, hA0, hR0⟩
      case round =>
        clear hA0 hR0
        obtain ⟨k, f, hk, rfl, rfl, hA, hR⟩ := hrel
        by_cases hk6 : k < 6
        · have hjk : j * 6 + k < n * 6 := by omega
          have cj := hA.cell (j * 6 + k) hjk
          have zj := hA.free (j * 6 + k)
          go_wp2_with fail
          go_roundw
          case rel => exact ⟨k + 1, put f (j * 6 + k) ((K : Int) + 6 * j + k), by omega, by go_num, by congr 1, hA.set hjk _, grown_set hR⟩
          case measure => simp [intOf]; omega
        · obtain rfl : k = 6 := by omega
          go_wp2_with fail
          go_roundw
          case rel => exact ⟨j + 1, f, by omega, by go_num, by congr 1, hA, hR⟩
          case measure => simp [intOf]; omega
    · obtain rfl : j = n := by omega
      go_wp2_with fail
      go_ret
      exact ⟨rfl, ⟨f0, hA0⟩, hR0⟩

set_option maxRecDepth 100000 in
set_option maxHeartbeats 4000000 in
theorem eqA4S_any (B B' : Nat) (A A' : Option Addr) (m c c' : Nat) (f : Nat → Int) (w : World) (h : Fours B w A m f) (h' : Fours B' w A' m f) (hm : m ≤ 100000) :
    Calls Try.prog 21 #[.slice A m c, .slice A' m c'] w fun e w' => e = .returned (.bool true) ∧ Below w.heap.size w w' := by
  have H := Lib.hid h; clear h
  have H' := Lib.hid h'; clear h'
  have He := Lib.hid (fun f w => eqA4_any f w)
  go_enter Try.func21, Try.ntmps21
  go_wp2_with fail
  go_loopw [5] (fun i wr => ∃ k : Nat, k ≤ m ∧ i = .int .i64 k ∧ Below w.heap.size w wr) (fun i _ => m - (intOf i).toNat)
  case atStart => exact ⟨0, Nat.zero_le _, rfl, n0 w⟩
  case round =>
    obtain ⟨k, hk, rfl, hB⟩ := hrel
    by_cases hlt : k < m
    · obtain ⟨g, rfl, _, hA1⟩ := H.out.at_ (show 0 < m by omega)
      obtain ⟨g', rfl, _, hA2⟩ := H'.out.at_ (show 0 < m by omega)
      have hit : decide (k < m) = true := decide_eq_true hlt
      go_wp2_with fail
      refine wp_region_quiet (C := fun w' => Below w.heap.size w w') (by kernel_rfl) (by kernel_rfl) hB.drew ?_
      clear hB
      refine BigFrame.wpQuiet_want rfl (fun K hK => BigFrame.quiet_move _ rfl (hK _ ?_)); clear hK K; go_simp
      refine BigFrame.wpQuiet_want rfl (fun K hK => BigFrame.quiet_move _ rfl (hK _ ?_)); clear hK K; go_simp
      refine BigFrame.wpQuiet_want rfl (fun K hK => ?_); go_big_quiet_op; refine ⟨_, by intros; rfl, hK _ ?_⟩; clear hK K; go_simp
      refine BigFrame.wpQuiet_want rfl (fun K hK => quiet_ld4 _ rfl rfl (show k * 4 + 4 ≤ m * 4 by omega) (fun _ h => hA1.up h) (hK _ ?_)); clear hK K; go_simp
      refine BigFrame.wpQuiet_want rfl (fun K hK => BigFrame.quiet_move _ rfl (hK _ ?_)); clear hK K; go_simp
      refine BigFrame.wpQuiet_want rfl (fun K hK => BigFrame.quiet_move _ rfl (hK _ ?_)); clear hK K; go_simp
      refine BigFrame.wpQuiet_want rfl (fun K hK => ?_); go_big_quiet_op; refine ⟨_, by intros; rfl, hK _ ?_⟩; clear hK K; go_simp
      refine BigFrame.wpQuiet_want rfl (fun K hK => quiet_ld4 _ rfl rfl (show k * 4 + 4 ≤ m * 4 by omega) (fun _ h => hA2.up h) (hK _ ?_)); clear hK K; go_simp
      refine BigFrame.wpQuiet_want rfl (fun K hK => ⟨.bool true, fun w' hw' => ?_, hK _ ?_⟩)
      · clear hK K
        have Hw := Lib.hid hw'; clear hw'
        go_simp
        refine (He.out _ _).mono ?_
        rintro e w5 ⟨rfl, hb⟩
        exact ⟨rfl, nx Hw.out hb⟩
      clear hK K; go_simp
      refine BigFrame.wpQuiet_want rfl (fun K hK => ?_); go_big_quiet_op; refine ⟨_, by intros; rfl, hK _ ?_⟩; clear hK K; go_simp
      refine wpQuiet_nil ?_
      intro w3 hB
      go_wp2_with fail
      go_roundw
      case rel => exact ⟨k + 1, by omega, by go_num, hB⟩
      case measure => simp [intOf]; omega
    · obtain rfl : k = m := by omega
      go_wp2_with fail
      go_ret
      exact ⟨rfl, hB⟩

set_option maxHeartbeats 1000000 in
theorem markA4S_any (B : Nat) (A : Option Addr) (m c : Nat) (f : Nat → Int) (w : World) (h : Fours B w A m f) (hm : m ≤ 100000) :
    Calls Try.prog 23 #[.slice A m c, .int .i64 1] w fun e w' => e = .returned (.int .i64 (1 + 4 * (m : Int))) ∧ Fours B w' A m (fun t => 1 + (t : Int)) ∧ Below B w w' := by
  by_cases h0 : m = 0
  · subst h0
    clear h
    go_enter Try.func23, Try.ntmps23
    go_wp2_with fail
    go_loopw [1, 5] (fun kv i wr => i = .int .i64 0 ∧ kv = .int .i64 1 ∧ wr = w) (fun _ _ _ => 0)
    case atStart => exact ⟨rfl, rfl, rfl⟩
    case round =>
      obtain ⟨rfl, rfl, rfl⟩ := hrel
      go_wp2_with fail
      go_ret
      exact ⟨rfl, .inl rfl, Below.refl _ _⟩
  · obtain ⟨g, rfl, hB, hA⟩ := h.at_ (by omega)
    clear h
    go_enter Try.func23, Try.ntmps23
    go_wp2_with fail
    go_loopw [1, 5] (fun kv i wr => ∃ (j : Nat) (f : Nat → Int), j ≤ m ∧ i = .int .i64 j ∧ kv = .int .i64 (1 + 4 * (j : Int)) ∧ At wr g (m * 4) f ∧ Below B w wr ∧ Hid (∀ t, t < 4 * j → f t = 1 + (t : Int))) (fun _ i _ => m - (intOf i).toNat)
    case atStart => exact ⟨0, f, Nat.zero_le _, rfl, by simp, hA, Below.refl _ _, fun t ht => by omega⟩
    case round =>
      clear hA
      obtain ⟨j, f0, hj, rfl, rfl, hA0, hR0, he0⟩ := hrel
      by_cases hlt : j < m
      · have hit : decide ((j : Int) < (m : Int)) = true := decide_eq_true (by omega)
        go_wp2_with fail
        go_loopw [1, 6] (fun kv i wr => ∃ (k : Nat) (f : Nat → Int), k ≤ 4 ∧ i = .int .i64 k ∧ kv = .int .i64 (1 + 4 * (j : Int) + k) ∧ At wr g (m * 4) f ∧ Below B w wr ∧ Hid (∀ t, t < 4 * j + k → f t = 1 + (t : Int))) (fun _ i _ => 4 - (intOf i).toNat)
        case atStart => exact ⟨0, f0, Nat.zero_le _, rfl, by simp, hA0, hR0, fun t ht => he0.out t (by omega)⟩
        case round =>
          clear hA0 hR0 he0
          obtain ⟨k, f, hk, rfl, rfl, hA, hR, he⟩ := hrel
          by_cases hk4 : k < 4
          · have hjk : j * 4 + k < m * 4 := by omega
            have cj := hA.cell (j * 4 + k) hjk
            have zj := hA.free (j * 4 + k)
            go_wp2_with fail
            go_roundw
            case rel =>
              refine ⟨k + 1, put f (j * 4 + k) (1 + 4 * (j : Int) + k), by omega, by go_num, by congr 1, hA.set hjk _, hR.setCell (p := ⟨g, j * 4 + k, none⟩) hB _, fun t ht => ?_⟩
              by_cases htj : t = j * 4 + k
              · subst htj
                rw [put_same]
                omega
              · rw [put_other _ htj]
                exact he.out t (by omega)
            case measure => simp [intOf]; omega
          · obtain rfl : k = 4 := by omega
            go_wp2_with fail
            go_roundw
            case rel => exact ⟨j + 1, f, by omega, by go_num, by congr 1, hA, hR, fun t ht => he.out t (by omega)⟩
            case measure => simp [intOf]; omega
      · obtain rfl : j = m := by omega
        go_wp2_with fail
        go_ret
        exact ⟨rfl, .inr ⟨g, rfl, hB, hA0.congr fun t ht => he0.out t (by omega)⟩, hR0⟩

set_option maxHeartbeats 1000000 in
theorem heldA4S_any (B : Nat) (A : Option Addr) (m c : Nat) (w : World) (h : Fours B w A m (fun t => 1 + (t : Int))) (hm : m ≤ 100000) :
    Calls Try.prog 24 #[.slice A m c, .int .i64 1] w fun e w' => e = .returned (.int .i64 (1 + 4 * (m : Int))) ∧ Below w.heap.size w w' := by
  have H := Lib.hid h; clear h
  go_enter Try.func24, Try.ntmps24
  go_wp2_with fail
  go_loopw [1, 5] (fun kv i wr => ∃ j : Nat, j ≤ m ∧ i = .int .i64 j ∧ kv = .int .i64 (1 + 4 * (j : Int)) ∧ wr = w) (fun _ i _ => m - (intOf i).toNat)
  case atStart => exact ⟨0, Nat.zero_le _, rfl, by simp, rfl⟩
  case round =>
    obtain ⟨j, hj, rfl, rfl, rfl⟩ := hrel
    by_cases hlt : j < m
    · have hit : decide ((j : Int) < (m : Int)) = true := decide_eq_true (by omega)
      obtain ⟨g, rfl, _, hA⟩ := H.out.at_ (show 0 < m by omega)
      go_wp2_with fail
      obtain ⟨W0, rfl⟩ : ∃ W0, W0 = wr := ⟨wr, rfl⟩
      go_loopw [1, 6] (fun kv i wr => ∃ k : Nat, k ≤ 4 ∧ i = .int .i64 k ∧ kv = .int .i64 (1 + 4 * (j : Int) + k) ∧ wr = W0) (fun _ i _ => 4 - (intOf i).toNat)
      case atStart => exact ⟨0, Nat.zero_le _, rfl, by simp, rfl⟩
      case round =>
        obtain ⟨k, hk, rfl, rfl, rfl⟩ := hrel
        by_cases hk4 : k < 4
        · have cj := hA.cell (j * 4 + k) (by omega)
          have ecj : ((1 : Int) + ((j * 4 + k : Nat) : Int)) = 1 + 4 * (j : Int) + k := by omega
          rw [ecj] at cj
          clear ecj
          go_wp2_with fail
          go_roundw
          case rel => exact ⟨k + 1, by omega, by go_num, by congr 1, by first | rfl | trivial⟩
          case measure => simp [intOf]; omega
        · obtain rfl : k = 4 := by omega
          go_wp2_with fail
          go_roundw
          case rel => exact ⟨j + 1, by omega, by go_num, by congr 1, by first | rfl | trivial⟩
          case measure => simp [intOf]; omega
    · obtain rfl : j = m := by omega
      go_wp2_with fail
      go_ret
      exact ⟨rfl, Below.refl _ _⟩


end FoursW
end Go.Proofs.Ytbcaahaaaodhkaa
