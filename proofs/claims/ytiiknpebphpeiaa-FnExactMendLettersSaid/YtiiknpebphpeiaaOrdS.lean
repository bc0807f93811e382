/-
  The orders of the model.
-/
import Derived.Test.YtiiknpebphpeiaaRows
import Derived.Test.YtiiknpebphpeiaaArr
import Derived.Test.YtiiknpebphpeiaaDieW
import Derived.Test.YtiiknpebphpeiaaSortW
import Derived.Test.YtiiknpebphpeiaaDicesW
import Derived.Test.YtiiknpebphpeiaaPoolW
import Derived.Test.YtiiknpebphpeiaaAll6
import Derived.Test.YtiiknpebphpeiaaIntsW
import Derived.Test.YtiiknpebphpeiaaRollN
import Derived.Test.YtiiknpebphpeiaaRollS
import Derived.Test.YtiiknpebphpeiaaFour
import Derived.Test.YtiiknpebphpeiaaOrdM
import Derived.Test.YtiiknpebphpeiaaOrdT
import Derived.Test.YtiiknpebphpeiaaOrdK
import Derived.Test.YtiiknpebphpeiaaOpenD
import Derived.WalkKit
import Derived.WalkLawsBesides
import Derived.WalkSpells
import Derived.ProofKit
import Derived.OpenShut
import Derived.Deep.RegionWith
import Derived.Deep.QuietTactic
import Derived.BigQuiet
namespace Go.Proofs.Ytiiknpebphpeiaa
open Go.ChangeShapes Go.WideShapes Go.ChangeAt Go.RowKit
open Go.ChangeMaps (open_string shut_string)

namespace OrdS
open Dice Arr OpenD DieW SortW DicesW PoolW All6 IntsW RollW Four OrdM OrdT OrdK


theorem wrap_shl {r : Nat} (hr : r ≤ 4) : wrap64 ((2 : Int) ^ r) = ((2 ^ r : Nat) : Int) := by
  obtain rfl | rfl | rfl | rfl | rfl : r = 0 ∨ r = 1 ∨ r = 2 ∨ r = 3 ∨ r = 4 := by omega
  all_goals decide +kernel
theorem wrap_small (r : Nat) (h : r ≤ 256) : wrap64 (r : Int) = (r : Int) := by unfold wrap64; omega
theorem bits_or {a b : Nat} (ha : a < 16) (hb : b < 16) : bits BinOp.or IntKind.i64 (a : Int) (b : Int) = ((a ||| b : Nat) : Int) := by
  have h : ∀ a b : Fin 16, bits BinOp.or IntKind.i64 (a.val : Int) (b.val : Int) = ((a.val ||| b.val : Nat) : Int) := by decide +kernel
  exact h ⟨a, ha⟩ ⟨b, hb⟩

set_option maxRecDepth 20000 in
set_option maxHeartbeats 4000000 in
theorem specOrders_any (n : Nat) (w : World) (h1 : 1 ≤ n) (h4 : n ≤ 4) :
    Calls Try.prog 69 #[.int .i64 n] w fun e w' => ∃ A c, e = .returned (.slice A (ordL n).length c) ∧ Ords w.heap.size w' A (ordL n).length (ofL (ordL n)) ∧ Below w.heap.size w w' := by
  have Hpw := Lib.hid (fun w => power_any n n w h4 h4)
  have Hend := Lib.hid (ordS_eq h1 h4)
  obtain ⟨N, hN⟩ : ∃ N, N = n ^ n := ⟨_, rfl⟩
  have hN2 : N ≤ 256 := by rw [hN]; exact Nat.le_trans (Nat.pow_le_pow_left h4 n) (Nat.le_trans (Nat.pow_le_pow_right (by omega) h4) (by decide))
  rw [← hN] at Hpw Hend
  have HN := Lib.hid hN; clear hN
  have hlen : Hid (∀ c, (ordS n c).length ≤ c) := fun c => by
    induction c with
    | zero => exact Nat.le_refl _
    | succ c ih =>
      show (if OrdM.seen n c n = 2 ^ n - 1 then ordS n c ++ [q4 (codeF n c n)] else ordS n c).length ≤ c + 1
      by_cases h : OrdM.seen n c n = 2 ^ n - 1
      · rw [if_pos h, List.length_append]; simp only [List.length_cons, List.length_nil]; omega
      · rw [if_neg h]; omega
  obtain ⟨i4, hi, hz0, hz1, hz2⟩ := info_parts info4
  have H4 := Lib.hid (And.intro hi (And.intro hz0 (And.intro hz1 hz2)))
  clear hi hz0 hz1 hz2
  have hsh := wrap_shl h4
  have h16 : 2 ^ n ≤ 16 := Nat.pow_le_pow_right (n := 2) (by omega) h4
  have hp1 : 1 ≤ 2 ^ n := Nat.one_le_pow _ _ (by omega)
  have hT : Hid (∀ c, ordS n (c + 1) = if OrdM.seen n c n = 2 ^ n - 1 then ordS n c ++ [q4 (codeF n c n)] else ordS n c) := fun c => rfl
  generalize 2 ^ n = T at *
  go_enter Try.func69, Try.ntmps69
  go_wp2_with fail
  go_loopw [3, 4] (fun v iv wr => ∃ c : Nat, c ≤ N ∧ iv = .int .i64 c ∧ wr.ownsRow w.heap.size 26 4 v (ordS n c).length (oc (ordS n c)) ∧ Below w.heap.size w wr) (fun _ iv _ => N - (intOf iv).toNat)
  case atStart => exact ⟨0, Nat.zero_le _, rfl, World.ownsRow_made w #[] 0 (Nat.le_refl _) (by decide) rfl, na (n0 w) _⟩
  case round =>
    obtain ⟨c, hc, rfl, hO, hB⟩ := hrel
    by_cases hlt : c < N
    · have hct : decide ((c : Int) < (N : Int)) = true := decide_eq_true (by omega)
      have hctN : decide (c < N) = true := decide_eq_true hlt
      have hln := hlen.out c
      have hsz := hB.size
      go_wp2_with fail
      refine (Hpw.out _).mono ?_
      rintro e w2 ⟨rfl, rfl⟩
      obtain ⟨W0, rfl⟩ : ∃ W0, W0 = w2 := ⟨w2, rfl⟩
      obtain ⟨o, ho⟩ : ∃ o, o = W0.heap.size := ⟨_, rfl⟩
      have hX := At.new4 W0 (fun _ => -1) 26 ho
      have hno : Hid (u3.ownBlock = none ∨ u3.ownBlock ≠ some o) := by
        cases hu : u3.ownBlock with
        | none => exact .inl rfl
        | some g => refine .inr fun e => ?_; injection e with e; have := (hO.lt g hu).2; omega
      have hO1 := hO.alloc (fourO (fun _ => -1) 26)
      have hB1 := hB.alloc hB.size (fourO (fun _ => -1) 26)
      have hlw : w.heap.size ≤ o := by omega
      go_wp2_with fail
      rw [← ho]
      clear hO hB ho
      go_loopw [6, 7, 8] (fun sv rv iv wr => ∃ k t R s : Nat, k + t = n ∧ iv = .int .i64 ((k : Int) - 1) ∧ rv = .int .i64 R ∧ sv = .int .i64 s ∧ s < 16 ∧ R ≤ 256 ∧ Hid (R = c / n ^ t) ∧ Hid (s = OrdM.seen n c t) ∧ At wr o 4 (codeF n c t) ∧ wr.ownsRow w.heap.size 26 4 u3 (ordS n c).length (oc (ordS n c)) ∧ Below w.heap.size w wr) (fun _ _ iv _ => (intOf iv + 1).toNat)
      case atStart => exact ⟨n, 0, c, 0, by omega, rfl, rfl, rfl, by omega, by omega, (by show c = c / n ^ 0; simp), rfl, hX, hO1, hB1⟩
      case round =>
        clear hX hO1 hB1
        obtain ⟨k, t, R, s, hkt, rfl, rfl, rfl, hs16, hR, hRe, hse, hX, hO, hB⟩ := hrel
        rcases k with _ | k
        · obtain rfl : t = n := by omega
          obtain ⟨x0, x1, x2, x3⟩ := At.four hX
          have hst := hT.out c
          have hsnc := oc_snoc (ordS t c) (q4 (codeF t c t))
          have hen : enc (q4 (codeF t c t)) = [.int .i64 (codeF t c t 0), .int .i64 (codeF t c t 1), .int .i64 (codeF t c t 2), .int .i64 (codeF t c t 3)] := rfl
          have hsz := hB.size
          clear hRe hkt
          have hdif : (T : Int) - 1 = ((T - 1 : Nat) : Int) := by omega
          by_cases hs : s = T - 1
          · have he1 : ((s : Int) == (T : Int) - 1) = true := by simp; omega
            rw [if_pos (by rw [← hse.out, hs])] at hst
            rw [hen] at hsnc
            have Hst := Lib.hid hst; clear hst hs hse hdif
            have Hsn := Lib.hid hsnc; clear hsnc hen
            have hlq : (ordS t c ++ [q4 (codeF t c t)]).length = (ordS t c).length + 1 := by simp
            have Hlq := Lib.hid hlq; clear hlq
            generalize codeF t c t = F at *
            generalize q4 F = Q at *
            go_wp2_with (at_builtin; refine wpList_append_own _ rfl _ _ 33 rfl (w.heap.size) 26 i4 (.agg #[.int .i64 0, .int .i64 0, .int .i64 0, .int .i64 0]) 4 32 Try.underlying33 H4.out.1 H4.out.2.1 H4.out.2.2.1 H4.out.2.2.2 rfl (by decide) _ _ _ rfl (hO.alloc _) ⟨wr.heap.size, 0, none⟩ 1 1 [.int .i64 (F 0), .int .i64 (F 1), .int .i64 (F 2), .int .i64 (F 3)] rfl rfl ?c1 ?c2 ?c3 ?c4 ?c5 ?_)
            case c1 =>
              intro t u ht
              match t, ht with
              | 0, ht => simp at ht; subst ht; simp [Addr.add]
              | 1, ht => simp at ht; subst ht; simp [Addr.add]
              | 2, ht => simp at ht; subst ht; simp [Addr.add]
              | 3, ht => simp at ht; subst ht; simp [Addr.add]
            case c2 => intro u hu; simp at hu; rcases hu with rfl | rfl | rfl | rfl <;> rfl
            case c3 => unfold maxLen; omega
            case c4 => omega
            case c5 => simp; omega
            · intro v' w4 hO4 hg4 _
              have hB4 := (hB.alloc hsz (fourO F 26)).grown hg4 (by rw [size_alloc]; omega) (fun t e => (hO.lt t e).1)
              have hO5 : w4.ownsRow w.heap.size 26 4 v' (ordS t (c + 1)).length (oc (ordS t (c + 1))) := by rw [Hst.out, Hsn.out, Hlq.out]; exact hO4
              clear hg4 hO4
              go_wp2_with fail
              go_roundw
              case rel => exact ⟨c + 1, by omega, by go_num, hO5, hB4⟩
              case measure => simp [intOf]; omega
          · have he1 : ((s : Int) == (T : Int) - 1) = false := by simp; omega
            rw [if_neg (by rw [← hse.out]; exact hs)] at hst
            have Hst := Lib.hid hst; clear hst hsnc hen
            clear hs hse
            generalize codeF t c t = F at *
            go_wp2_with fail
            go_roundw
            case rel => exact ⟨c + 1, by omega, by go_num, by rw [Hst.out]; exact hO, hB⟩
            case measure => simp [intOf]; omega
        · obtain ⟨r, hrr⟩ : ∃ r : Nat, r = dgt n c t := ⟨_, rfl⟩
          have hrn : r < n := by rw [hrr]; exact Nat.mod_lt _ (by omega)
          have hrm : (R : Int).tmod (n : Int) = (r : Int) := by rw [hrr, hRe.out]; rfl
          have hwd : wrap64 ((R : Int) / (n : Int)) = ((R / n : Nat) : Int) := by
            have e : (R : Int) / (n : Int) = ((R / n : Nat) : Int) := rfl
            rw [e]
            exact wrap_small _ (Nat.le_trans (Nat.div_le_self _ _) hR)
          have Hwd := Lib.hid hwd; clear hwd
          have hkn : k < 4 := by omega
          have cr := hX.cell k hkn
          have zr := hX.free k
          have hwr := wrap_shl (r := r) (by omega)
          have hor := bits_or (a := s) (b := 2 ^ r) hs16 (Nat.lt_of_le_of_lt (Nat.pow_le_pow_right (n := 2) (by omega) (show r ≤ 3 by omega)) (by decide))
          have hs2 : s ||| 2 ^ r < 16 := Nat.or_lt_two_pow (n := 4) hs16 (Nat.pow_lt_pow_right (by omega) (show r < 4 by omega))
          have hsn : OrdM.seen n c (t + 1) = s ||| 2 ^ r := by show OrdM.seen n c t ||| 2 ^ dgt n c t = _; rw [← hse.out, ← hrr]
          have Hsn := Lib.hid hsn; clear hsn
          generalize s ||| 2 ^ r = s2 at *
          generalize 2 ^ r = p at *
          have hki : (((k + 1 : Nat) : Int) - 1) = (k : Int) := by omega
          rw [hki]
          clear hki
          have Hrr := Lib.hid hrr; clear hrr
          have hR2 : R / n ≤ 256 := Nat.le_trans (Nat.div_le_self _ _) hR
          go_wp2_with fail
          go_roundw
          case rel =>
            refine ⟨k, t + 1, R / n, s2, by omega, by first | rfl | go_num, by rw [Hwd.out], by first | rfl | go_num, hs2, hR2, ?_, Hsn.out.symm, ?_, hO.kept (grown_setc _ _ _ _) hno.out, hB.setCell (p := ⟨o, k, none⟩) (by show w.heap.size ≤ o; omega) _⟩
            · show R / n = c / n ^ (t + 1)
              rw [hRe.out, Nat.pow_succ, Nat.div_div_eq_div_mul]
            · show At _ o 4 (put (codeF n c t) (n - 1 - t) (dgt n c t))
              rw [show n - 1 - t = k by omega, ← Hrr.out]
              exact hX.set hkn _
          case measure => simp [intOf]
    · obtain rfl : c = N := by omega
      have hct : decide ((c : Int) < (c : Int)) = false := decide_eq_false (by omega)
      rw [Hend.out] at hO
      obtain ⟨A, cc, rfl, hF⟩ := ords_own hO
      clear hO
      go_wp2_with fail
      refine (Hpw.out _).mono ?_
      rintro e w2 ⟨rfl, rfl⟩
      go_wp2_with fail
      go_ret
      exact ⟨A, cc, rfl, hF, hB⟩


end OrdS
end Go.Proofs.Ytiiknpebphpeiaa
