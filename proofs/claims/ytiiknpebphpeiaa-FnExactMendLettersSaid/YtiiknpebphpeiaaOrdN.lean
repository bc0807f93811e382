/-
  The program's orders, place by place.
-/
import Derived.Test.YtiiknpebphpeiaaRows
import Derived.Test.YtiiknpebphpeiaaArr
import Derived.Test.YtiiknpebphpeiaaDieW
import Derived.Test.YtiiknpebphpeiaaSortW
import Derived.Test.YtiiknpebphpeiaaDicesW
import Derived.Test.YtiiknpebphpeiaaPoolW
import Derived.Test.YtiiknpebphpeiaaAll6
import Derived.Test.YtiiknpebphpeiaaIntsW
import Derived.Test.YtiiknpebphpeiaaRollN
import Derived.Test.YtiiknpebphpeiaaRollS
import Derived.Test.YtiiknpebphpeiaaFour
import Derived.Test.YtiiknpebphpeiaaOrdM
import Derived.Test.YtiiknpebphpeiaaOrdT
import Derived.Test.YtiiknpebphpeiaaOrdW
import Derived.Test.YtiiknpebphpeiaaOrdK
import Derived.Test.YtiiknpebphpeiaaShelfMax
import Derived.Test.YtiiknpebphpeiaaOpenD
import Derived.WalkKit
import Derived.WalkLawsBesides
import Derived.WalkSpells
import Derived.ProofKit
import Derived.OpenShut
import Derived.Deep.RegionWith
import Derived.Deep.QuietTactic
import Derived.BigQuiet
namespace Go.Proofs.Ytiiknpebphpeiaa
open Go.ChangeShapes Go.WideShapes Go.ChangeAt Go.RowKit
open Go.ChangeMaps (open_string shut_string)

namespace OrdN
open Dice Arr OpenD DieW SortW DicesW PoolW All6 IntsW RollW Four OrdM OrdT OrdW OrdK


theorem elem4 : Try.prog.underlying 24 = some (.array (Try.prog.arrayLen 24) (Try.prog.elem 24)) := by kernel_rfl
theorem len4 : Try.prog.arrayLen 24 = 4 := by kernel_rfl
theorem el4 : Try.prog.elem 24 = 3 := by kernel_rfl
theorem slice_to (o t : Nat) (ht : t ≤ 4) (w : World) : (Instr.sliceAt 24 (.pointer (some ⟨o, 0, none⟩)) none (some (.int .i64 (t : Nat))) none).run Try.prog w = .ok (.slice (some ⟨o, 0, none⟩) t 4) w := by
  rw [run_sliceAt_array_h w _ _ elem4 _ _ (by omega) (by rw [len4]; omega), len4, el4]
  simp [Try.sizeOf3, slicedAt, Result.andThen, Addr.add]
set_option maxRecDepth 20000 in
set_option maxHeartbeats 4000000 in
theorem next_any (B : Nat) (A : Option Addr) (c : Nat) (os : List Q4) (n t : Nat) (w : World) (hF : Ords B w A os.length (ofL os)) (hn : n ≤ 4) (ht : t < 4) (hlen : os.length ≤ 24) :
    Calls Try.prog 70 #[.slice A os.length c, .int .i64 n, .int .i64 t] w fun e w' => ∃ A' c', e = .returned (.slice A' (exts os n t).length c') ∧ Ords w.heap.size w' A' (exts os n t).length (ofL (exts os n t)) ∧ Below w.heap.size w w' := by
  have Hend := Lib.hid (extsN_all os n t)
  have hlo : Hid (∀ i, i ≤ os.length → (extsN os n t i).length ≤ 96) := fun i hi => by
    have h1 := extsN_len os n t i
    have : i * n ≤ 24 * 4 := Nat.mul_le_mul (by omega) hn
    omega
  obtain ⟨i4, hi, hz0, hz1, hz2⟩ := info_parts info4
  have H4 := Lib.hid (And.intro hi (And.intro hz0 (And.intro hz1 hz2)))
  clear hi hz0 hz1 hz2
  have H := Lib.hid hF; clear hF
  go_enter Try.func70, Try.ntmps70
  go_wp2_with fail
  go_loopw [7, 13] (fun v iv wr => ∃ i : Nat, i ≤ os.length ∧ iv = .int .i64 i ∧ wr.ownsRow w.heap.size 26 4 v (extsN os n t i).length (oc (extsN os n t i)) ∧ Below w.heap.size w wr) (fun _ iv _ => os.length - (intOf iv).toNat)
  case atStart => exact ⟨0, Nat.zero_le _, rfl, World.ownsRow_nil _ _ _ _, n0 w⟩
  case round =>
    obtain ⟨i, hi, rfl, hO, hB⟩ := hrel
    by_cases hlt : i < os.length
    · have hit : decide ((i : Int) < (os.length : Int)) = true := decide_eq_true (by omega)
      have hitN : decide (i < os.length) = true := decide_eq_true hlt
      obtain ⟨b, rfl, hbB, hL0⟩ := H.out.at_ (by omega)
      have hL := hL0.up hB
      have hlnL := hlo.out i hi
      have hsn : extsN os n t (i + 1) = extsN os n t i ++ ext (os.getD i (0, 0, 0, 0)) t n := rfl
      have hat := fun k (hk : k < 4) => ofL_at os i hk
      have Hsn := Lib.hid hsn; clear hsn
      obtain ⟨y0, y1, y2, y3⟩ := At.from4 hL (i * 4) (by omega)
      rw [show ofL os (i * 4) = qa (os.getD i (0, 0, 0, 0)) 0 from hat 0 (by omega)] at y0
      rw [hat 1 (by omega)] at y1
      rw [hat 2 (by omega)] at y2
      rw [hat 3 (by omega)] at y3
      clear hat
      obtain ⟨W0, rfl⟩ : ∃ W0, W0 = wr := ⟨wr, rfl⟩
      obtain ⟨o, ho⟩ : ∃ o, o = W0.heap.size := ⟨_, rfl⟩
      obtain ⟨q, hq⟩ : ∃ q, q = os.getD i (0, 0, 0, 0) := ⟨_, rfl⟩
      rw [← hq] at y0 y1 y2 y3 Hsn
      have hX := At.new4 W0 (qa q) 26 ho
      have hO1 := hO.alloc (fourO (qa q) 26)
      have hB1 := hB.alloc hB.size (fourO (qa q) 26)
      have hsz := hB.size
      have hlw : w.heap.size ≤ o := by omega
      have hle := fun p => ext_len q t p
      have hno : Hid (∀ (v : Value) (m : Nat) (xs : List Value) (wz : World), wz.ownsRow w.heap.size 26 4 v m xs → v.ownBlock ≠ some o → (v.ownBlock = none ∨ v.ownBlock ≠ some o)) := fun v _ _ _ _ h => .inr h
      have hO0 : Hid (u7.ownBlock ≠ some o) := fun e => by have := (hO.lt o e).2; omega
      generalize extsN os n t i = L at *
      clear hq hL hL0 hO hB H
      go_wp2_with fail
      rw [← ho]
      have hon : W0.heap.size ≤ o := by omega
      clear y0 y1 y2 y3 ho
      go_loopw [7, 18] (fun v pv wr => ∃ (p : Nat) (f : Nat → Int), p ≤ n ∧ pv = .int .i64 p ∧ Hid (∀ j, j < 4 → j ≠ t → f j = qa q j) ∧ At wr o 4 f ∧ wr.ownsRow w.heap.size 26 4 v (L ++ ext q t p).length (oc (L ++ ext q t p)) ∧ Hid (v.ownBlock ≠ some o) ∧ Below w.heap.size w wr) (fun _ pv _ => n - (intOf pv).toNat)
      case atStart => exact ⟨0, qa q, Nat.zero_le _, rfl, fun _ _ _ => rfl, hX, by rw [show ext q t 0 = [] from rfl, List.append_nil]; exact hO1, hO0.out, hB1⟩
      case round =>
        clear hX hO1 hO0 hB1
        obtain ⟨p, f, hp, rfl, hf, hX, hO, hbn, hB⟩ := hrel
        by_cases hlp : p < n
        · have hpt : decide ((p : Int) < (n : Int)) = true := decide_eq_true (by omega)
          have hptN : decide (p < n) = true := decide_eq_true hlp
          have hlep := hle p
          have hlen' : (ext q t p).length ≤ p := hlep
          have hcn := Lib.hid (fun (w : World) (c0 : w.cell? ⟨o, 0, none⟩ = some (.int .i64 (f 0))) (c1 : w.cell? ⟨o, 1, none⟩ = some (.int .i64 (f 1))) (c2 : w.cell? ⟨o, 2, none⟩ = some (.int .i64 (f 2))) (c3 : w.cell? ⟨o, 3, none⟩ = some (.int .i64 (f 3))) =>
            Try.slices_Contains_int o 0 t 4 [f 0, f 1, f 2, f 3] p w (by simp; omega) (by omega) (fun j hj => by
              have hj : j < 4 := hj
              obtain rfl | rfl | rfl | rfl : j = 0 ∨ j = 1 ∨ j = 2 ∨ j = 3 := by omega
              · exact c0
              · exact c1
              · exact c2
              · exact c3))
          have hcc : (([f 0, f 1, f 2, f 3] : List Int).take t).contains (p : Int) = hasP q p t := by
            rw [contains4 f p (by omega), hasP_congr (g := qa q) p (by omega) fun j hj => hf.out j (by omega) (by omega), q4_qa]
          rw [hcc] at hcn
          have hnew := @ext_new q t p
          have hhas := @ext_has q t p
          have hq4 : q4 (put f t p) = q4 (put (qa q) t p) := q4_congr fun j hj => by
            by_cases e : j = t
            · subst e; rw [put_same, put_same]
            · rw [put_other _ e, put_other _ e]; exact hf.out j hj e
          obtain ⟨x0, x1, x2, x3⟩ := At.four hX
          have hsl := slice_to o t (Nat.le_of_lt ht)
          cases hh : hasP q p t
          · rw [hh] at hcn hnew
            have Hnew := Lib.hid (hnew rfl)
            have Hq4 := Lib.hid hq4
            clear hnew hhas hq4 hcc hh
            have Hlq : Hid ((L ++ ext q t (p + 1)).length = (L ++ ext q t p).length + 1) := by show _ = _; rw [Hnew.out]; simp only [List.length_append, List.length_cons, List.length_nil]; omega
            have hL96 : (L ++ ext q t p).length ≤ 100 := by rw [List.length_append]; omega
            have Hoc : Hid (oc (L ++ ext q t (p + 1)) = oc (L ++ ext q t p) ++ enc (q4 (put f t p))) := by show _ = _; rw [Hnew.out, Hq4.out, ← List.append_assoc, oc_snoc]
            clear Hnew Hq4
            obtain ⟨L2, hL2⟩ : ∃ L2, L2 = L ++ ext q t (p + 1) := ⟨_, rfl⟩
            rw [← hL2] at Hlq Hoc
            have HL2 := Lib.hid hL2; clear hL2
            generalize L ++ ext q t p = L1 at *
            go_wp2_with fail
            refine (hcn.out _ x0 x1 x2 x3).mono ?_
            rintro e w3 ⟨rfl, rfl⟩
            have hX2 := hX.set (i := t) ht (p : Int)
            have hO2 := hO.kept (grown_setc w3 o t (.int .i64 p)) (.inr hbn.out)
            have hB2 := hB.setCell (p := ⟨o, t, none⟩) (by show w.heap.size ≤ o; omega) (.int .i64 (p : Int))
            have cx := hX.cell t ht
            have zx := hX.free t
            have hf2 : Hid (∀ j, j < 4 → j ≠ t → put f t p j = qa q j) := fun j hj hne => by rw [put_other _ hne]; exact hf.out j hj hne
            have hen : enc (q4 (put f t p)) = [.int .i64 (put f t p 0), .int .i64 (put f t p 1), .int .i64 (put f t p 2), .int .i64 (put f t p 3)] := rfl
            rw [hen] at Hoc
            clear hen hf x0 x1 x2 x3
            obtain ⟨x0, x1, x2, x3⟩ := At.four hX2
            clear hX hO hB
            obtain ⟨F, hF⟩ : ∃ F, F = put f t (p : Int) := ⟨_, rfl⟩
            rw [← hF] at hX2 hf2 Hoc x0 x1 x2 x3
            clear hF
            have hsz2 := hB2.size
            have hN := At.new4 (w3.setCell ⟨o, t, none⟩ (.int .i64 (p : Int))) F 26 (b := w3.heap.size) (by rw [World.size_setCell])
            have hsz3 : w.heap.size ≤ w3.heap.size := by rw [World.size_setCell] at hsz2; exact hsz2
            have hol : o < w3.heap.size := by have := hX2.lt; rw [World.size_setCell] at this; exact this
            have HN := Lib.hid hN; clear hN
            go_wp2_with (at_builtin; refine wpList_append_own_at _ rfl _ _ 33 rfl (w.heap.size) 26 i4 (.agg #[.int .i64 0, .int .i64 0, .int .i64 0, .int .i64 0]) 4 32 Try.underlying33 H4.out.1 H4.out.2.1 H4.out.2.2.1 H4.out.2.2.2 rfl (by decide) _ _ _ rfl (hO2.alloc _) ⟨_, 0, none⟩ 1 1 [.int .i64 (F 0), .int .i64 (F 1), .int .i64 (F 2), .int .i64 (F 3)] rfl rfl ?c1 ?c2 ?c3 ?c4 ?c5 ?_)
            case c1 =>
              intro t u ht
              match t, ht with
              | 0, ht => simp at ht; subst ht; simp [Addr.add]; exact HN.out.cell 0 (by omega)
              | 1, ht => simp at ht; subst ht; simp [Addr.add]; exact HN.out.cell 1 (by omega)
              | 2, ht => simp at ht; subst ht; simp [Addr.add]; exact HN.out.cell 2 (by omega)
              | 3, ht => simp at ht; subst ht; simp [Addr.add]; exact HN.out.cell 3 (by omega)
            case c2 => intro u hu; simp at hu; rcases hu with rfl | rfl | rfl | rfl <;> rfl
            case c3 => unfold maxLen; omega
            case c4 => omega
            case c5 => simp; omega
            · intro v' w4 hO4 hg4 hnn hwh
              have hX4 := At.keptR (hX2.past (fourO F 26)) hg4 hbn.out
              have hbn4 : Hid (v'.ownBlock ≠ some o) := fun e => by
                rcases hwh with h | h
                · exact hbn.out (h ▸ e)
                · rw [e] at h; injection h with h; omega
              have hB4 := (hB2.alloc hsz2 (fourO F 26)).grown hg4 (by rw [size_alloc]; omega) (fun t e => (hO2.lt t e).1)
              have hO5 : w4.ownsRow w.heap.size 26 4 v' L2.length (oc L2) := by rw [Hlq.out, Hoc.out]; exact hO4
              clear hg4 hO4 hwh hnn
              go_wp2_with fail
              go_roundw
              case rel => exact ⟨p + 1, F, by omega, by go_num, hf2, hX4, by rw [← HL2.out]; exact hO5, hbn4, hB4⟩
              case measure => simp [intOf]; omega
          · rw [hh] at hcn
            have Hhas := Lib.hid (hhas hh)
            clear hnew hhas hq4 hcc hh
            go_wp2_with fail
            refine (hcn.out _ x0 x1 x2 x3).mono ?_
            rintro e w3 ⟨rfl, rfl⟩
            go_wp2_with fail
            go_roundw
            case rel => exact ⟨p + 1, f, by omega, by go_num, hf, hX, by rw [Hhas.out]; exact hO, hbn, hB⟩
            case measure => simp [intOf]; omega
        · obtain rfl : p = n := by omega
          have hpt : decide ((p : Int) < (p : Int)) = false := decide_eq_false (by omega)
          go_wp2_with fail
          go_roundw
          case rel => exact ⟨i + 1, by omega, by go_num, by rw [Hsn.out]; exact hO, hB⟩
          case measure => simp [intOf]; omega
    · obtain rfl : i = os.length := by omega
      have hit : decide ((os.length : Int) < (os.length : Int)) = false := decide_eq_false (by omega)
      rw [Hend.out] at hO
      obtain ⟨A', cc, rfl, hF⟩ := ords_own hO
      clear hO
      go_wp2_with fail
      go_ret
      exact ⟨A', cc, rfl, hF, hB⟩


end OrdN
end Go.Proofs.Ytiiknpebphpeiaa
