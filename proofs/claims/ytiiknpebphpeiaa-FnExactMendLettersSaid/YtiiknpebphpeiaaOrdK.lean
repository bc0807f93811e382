/-
  Lists of orders.
-/
import Derived.Test.YtiiknpebphpeiaaRows
import Derived.Test.YtiiknpebphpeiaaArr
import Derived.Test.YtiiknpebphpeiaaDieW
import Derived.Test.YtiiknpebphpeiaaSortW
import Derived.Test.YtiiknpebphpeiaaDicesW
import Derived.Test.YtiiknpebphpeiaaPoolW
import Derived.Test.YtiiknpebphpeiaaAll6
import Derived.Test.YtiiknpebphpeiaaIntsW
import Derived.Test.YtiiknpebphpeiaaRollN
import Derived.Test.YtiiknpebphpeiaaRollS
import Derived.Test.YtiiknpebphpeiaaFour
import Derived.Test.YtiiknpebphpeiaaOrdM
import Derived.Test.YtiiknpebphpeiaaOrdT
import Derived.Test.YtiiknpebphpeiaaOpenD
import Derived.WalkKit
import Derived.WalkLawsBesides
import Derived.WalkSpells
import Derived.ProofKit
import Derived.OpenShut
import Derived.Deep.RegionWith
import Derived.Deep.QuietTactic
import Derived.BigQuiet
import Derived.Maps.AppendAt
namespace Go.Proofs.Ytiiknpebphpeiaa
open Go.ChangeShapes Go.WideShapes Go.ChangeAt Go.RowKit
open Go.ChangeMaps (open_string shut_string)

namespace OrdK
open Dice Arr OpenD DieW SortW DicesW PoolW All6 IntsW RollW Four OrdM OrdT


/-- The cells of orders. -/
def enc (q : Q4) : List Value := vals 4 (qa q)
theorem enc_len (q : Q4) : (enc q).length = 4 := vals_len 4 _
theorem enc_get (q : Q4) {j : Nat} (h : j < 4) : (enc q)[j]? = some (.int .i64 (qa q j)) := vals_get h
def oc (L : List Q4) : List Value := L.flatMap enc
theorem oc_snoc (L : List Q4) (q : Q4) : oc (L ++ [q]) = oc L ++ enc q := by simp [oc]
def ofL (L : List Q4) (j : Nat) : Int := qa (L.getD (j / 4) (0, 0, 0, 0)) (j % 4)
theorem oc_get : ∀ (L : List Q4) (j : Nat), j < L.length * 4 → (oc L)[j]? = some (.int .i64 (ofL L j))
  | [], j, h => by simp at h
  | x :: L, j, h => by
    have e : oc (x :: L) = enc x ++ oc L := by simp [oc]
    rw [e]
    by_cases h4 : j < 4
    · rw [List.getElem?_append_left (by rw [enc_len]; exact h4), enc_get x h4]
      unfold ofL
      rw [show j / 4 = 0 by omega, show j % 4 = j by omega]
      rfl
    · rw [List.getElem?_append_right (by rw [enc_len]; omega), enc_len, oc_get L (j - 4) (by rw [List.length_cons] at h; omega)]
      unfold ofL
      rw [show j / 4 = (j - 4) / 4 + 1 by omega, show j % 4 = (j - 4) % 4 by omega, List.getD_cons_succ]
theorem ofL_at (L : List Q4) (i : Nat) {k : Nat} (hk : k < 4) : ofL L (i * 4 + k) = qa (L.getD i (0, 0, 0, 0)) k := by
  unfold ofL
  rw [show (i * 4 + k) / 4 = i by omega, show (i * 4 + k) % 4 = k by omega]
/-- A list of m orders in memory from block B on. -/
def Ords (B : Nat) (w : World) (A : Option Addr) (m : Nat) (f : Nat → Int) : Prop := m = 0 ∨ ∃ b, A = some ⟨b, 0, none⟩ ∧ B ≤ b ∧ At w b (m * 4) f
theorem Ords.up {B : Nat} {w w' : World} {A : Option Addr} {m : Nat} {f : Nat → Int} (h : Ords B w A m f) (hb : Below w.heap.size w w') : Ords B w' A m f := by
  rcases h with h | ⟨b, hA, hB, h⟩
  · exact .inl h
  · exact .inr ⟨b, hA, hB, h.up hb⟩
theorem Ords.mono {B B' : Nat} {w : World} {A : Option Addr} {m : Nat} {f : Nat → Int} (h : Ords B w A m f) (hB' : B' ≤ B) : Ords B' w A m f := by
  rcases h with h | ⟨b, hA, hB, h⟩
  · exact .inl h
  · exact .inr ⟨b, hA, by omega, h⟩
theorem Ords.at_ {B : Nat} {w : World} {A : Option Addr} {m : Nat} {f : Nat → Int} (h : Ords B w A m f) (hm : 0 < m) : ∃ b, A = some ⟨b, 0, none⟩ ∧ B ≤ b ∧ At w b (m * 4) f := by
  rcases h with h | h
  · omega
  · exact h
theorem ords_own {w : World} {B : Nat} {v : Value} {L : List Q4} (h : w.ownsRow B 26 4 v L.length (oc L)) : ∃ A c, v = .slice A L.length c ∧ Ords B w A L.length (ofL L) := by
  rcases h.2 with ⟨rfl, h0⟩ | ⟨g, cap, cur, rfl, hb, hg, hnc, hcm, hcs, htake⟩
  · exact ⟨none, 0, by rw [h0], .inl h0⟩
  · exact ⟨_, cap, rfl, .inr ⟨g, rfl, hb, (Array.getElem?_eq_some_iff.1 hg).1, fun k hk => (h.cellAt k hk).trans (oc_get L k hk), fun k => h.frozenAt k⟩⟩
theorem info4 : (Try.prog.info? 26).map (fun i => (i.zero, i.size, i.bytes)) = some (some (.agg #[.int .i64 0, .int .i64 0, .int .i64 0, .int .i64 0]), 4, 32) := by kernel_rfl
theorem keep_none (v : Value) : v.ownBlock = none ∨ v.ownBlock ≠ none := by cases v.ownBlock <;> simp
theorem grown_of {w w' : World} {B : Nat} (h : Below B w w') (hB : w.heap.size ≤ B) (row : Option Nat) : w.grownBy w' row := ⟨h.os, h.tape, h.output, h.size, fun k hk _ => h.block k (by omega)⟩
theorem load_off4 {w : World} {b o m : Nat} {f : Nat → Int} (h : At w b m f) (ho : o + 4 ≤ m) : (loadVar 26 ⟨b, o, none⟩).run Try.prog w = .ok (v4 fun k => f (o + k)) w := by
  have hl : (loadCells ⟨b, o, none⟩ 4).run Try.prog w = .ok (vals 4 (fun k => f (o + k))).toArray w :=
    run_loadCells (P := Try.prog) w ⟨b, o, none⟩ 4 (fun k => .int .i64 (f (o + k))) (fun j hj => by
      rw [add_plain]
      exact h.cell _ (by omega))
  cases hq : Try.prog.info? 26 with
  | none => have := size4; simp [hq] at this
  | some i =>
    have hs : i.size = 4 := by have := size4; simpa [hq] using this
    have hagg : (isAgg 26).run Try.prog w = .ok true w := by
      unfold isAgg
      rw [Sem.run_bind, run_underlying under w]
      simp_all
    simp [Go.loadVar, Sem.run_bind, hagg, sizeOf, typeInfo, hq, hs, hl]
    rfl
/-- The four cells of one order of a list. -/
theorem At.from4 {w : World} {b m : Nat} {f : Nat → Int} (h : At w b m f) (o : Nat) (ho : o + 4 ≤ m) : w.cell? ⟨b, o, none⟩ = some (.int .i64 (f o)) ∧ w.cell? ⟨b, o + 1, none⟩ = some (.int .i64 (f (o + 1))) ∧ w.cell? ⟨b, o + 2, none⟩ = some (.int .i64 (f (o + 2))) ∧ w.cell? ⟨b, o + 3, none⟩ = some (.int .i64 (f (o + 3))) :=
  ⟨h.cell _ (by omega), h.cell _ (by omega), h.cell _ (by omega), h.cell _ (by omega)⟩
theorem own_up {w w' : World} {B e size n : Nat} {v : Value} {xs : List Value} (h : w.ownsRow B e size v n xs) (hb : Below w.heap.size w w') : w'.ownsRow B e size v n xs :=
  h.kept (grown_of hb (Nat.le_refl _) none) (keep_none _)
theorem own_alloc {w : World} {B e size n : Nat} {v : Value} {xs : List Value} (h : w.ownsRow B e size v n xs) (o : Obj) : (w.alloc o).ownsRow B e size v n xs := h.alloc o

theorem grown_setc (w : World) (g j : Nat) (v : Value) : w.grownBy (w.setCell ⟨g, j, none⟩ v) (some g) :=
  ⟨rfl, rfl, rfl, by rw [World.size_setCell]; exact Nat.le_refl _, fun k hk hne => heap_setCell_other _ _ _ _ (fun e => hne (by rw [e]))⟩

theorem At.keptR {w w' : World} {b n : Nat} {f : Nat → Int} {row : Option Nat} (h : At w b n f) (hg : w.grownBy w' row) (hb : row ≠ some b) : At w' b n f := by
  have e := hg.block b h.lt (fun e => hb e.symm)
  exact ⟨Nat.lt_of_lt_of_le h.lt hg.size, fun k hk => (World.cell?_of_block (a := ⟨b, k, none⟩) e).trans (h.cell k hk), fun k => (World.frozen?_of_block (a := ⟨b, k, none⟩) e).trans (h.free k)⟩

/-- The program's lists, one order after another. -/
def extsN (os : List Q4) (n t : Nat) : Nat → List Q4
  | 0 => []
  | i + 1 => extsN os n t i ++ ext (os.getD i (0, 0, 0, 0)) t n
theorem extsN_take (os : List Q4) (n t : Nat) : ∀ i, i ≤ os.length → extsN os n t i = exts (os.take i) n t
  | 0, _ => rfl
  | i + 1, h => by
    show extsN os n t i ++ _ = _
    rw [extsN_take os n t i (by omega), List.take_add_one, List.getElem?_eq_getElem (by omega), List.getD_eq_getElem?_getD, List.getElem?_eq_getElem (by omega)]
    unfold exts
    rw [List.flatMap_append]
    simp only [Option.toList, List.flatMap_cons, List.flatMap_nil, List.append_nil, Option.getD_some]
theorem extsN_all (os : List Q4) (n t : Nat) : extsN os n t os.length = exts os n t := by
  rw [extsN_take os n t _ (Nat.le_refl _), List.take_length]
theorem ext_len (q : Q4) (t : Nat) : ∀ p, (ext q t p).length ≤ p
  | 0 => Nat.le_refl _
  | p + 1 => by
    have := ext_len q t p
    show (if hasP q p t then ext q t p else ext q t p ++ [q4 (put (qa q) t p)]).length ≤ p + 1
    cases hasP q p t
    · rw [if_neg (by simp), List.length_append]; simp only [List.length_cons, List.length_nil]; omega
    · rw [if_pos rfl]; omega
theorem extsN_len (os : List Q4) (n t : Nat) : ∀ i, (extsN os n t i).length ≤ i * n
  | 0 => by simp [extsN]
  | i + 1 => by
    have h1 := extsN_len os n t i
    have h2 := ext_len (os.getD i (0, 0, 0, 0)) t n
    show (extsN os n t i ++ _).length ≤ (i + 1) * n
    rw [List.length_append, Nat.succ_mul]
    omega
theorem ext_has {q : Q4} {t p : Nat} (h : hasP q p t = true) : ext q t (p + 1) = ext q t p := if_pos h
theorem ext_new {q : Q4} {t p : Nat} (h : hasP q p t = false) : ext q t (p + 1) = ext q t p ++ [q4 (put (qa q) t p)] := if_neg (by rw [h]; simp)
theorem hasP_congr {f g : Nat → Int} (p : Int) : ∀ {k : Nat}, k ≤ 4 → (∀ j, j < k → f j = g j) → hasP (q4 f) p k = hasP (q4 g) p k
  | 0, _, _ => rfl
  | k + 1, h4, h => by
    show (hasP (q4 f) p k || decide (qa (q4 f) k = p)) = (hasP (q4 g) p k || decide (qa (q4 g) k = p))
    rw [hasP_congr p (by omega) fun j hj => h j (by omega), qa_q4 f k (by omega), qa_q4 g k (by omega), h k (by omega)]
theorem contains4 (f : Nat → Int) (p : Int) {t : Nat} (ht : t ≤ 4) : (([f 0, f 1, f 2, f 3] : List Int).take t).contains p = hasP (q4 f) p t := by
  have e : ∀ x : Int, (p == x) = decide (x = p) := fun x => by
    by_cases h : x = p
    · subst h; simp
    · rw [decide_eq_false h]; simp; exact fun e => h e.symm
  obtain rfl | rfl | rfl | rfl | rfl : t = 0 ∨ t = 1 ∨ t = 2 ∨ t = 3 ∨ t = 4 := by omega
  all_goals simp only [List.take_succ_cons, List.take_zero, List.contains_cons, List.contains_nil, hasP, e, show qa (q4 f) 0 = f 0 from rfl, show qa (q4 f) 1 = f 1 from rfl, show qa (q4 f) 2 = f 2 from rfl, show qa (q4 f) 3 = f 3 from rfl, Bool.or_false, Bool.false_or, Bool.or_assoc]
set_option maxRecDepth 100000 in
set_option maxHeartbeats 2000000 in
theorem power_any (q n : Nat) (w : World) (hq : q ≤ 4) (hn : n ≤ 4) :
    Calls Try.prog 95 #[.int .i64 q, .int .i64 n] w fun e w' => e = .returned (.int .i64 (q ^ n : Nat)) ∧ w' = w := by
  have Hb : Hid (∀ i, i ≤ 4 → q ^ i ≤ 256) := fun i hi => Nat.le_trans (Nat.pow_le_pow_left hq i) (Nat.le_trans (Nat.pow_le_pow_right (by omega) hi) (by decide))
  go_enter Try.func95, Try.ntmps95
  go_wp2_with fail
  go_loop [5, 6] (fun sv iv => ∃ i : Nat, i ≤ n ∧ iv = .int .i64 i ∧ sv = .int .i64 (q ^ i : Nat)) (fun _ iv => n - (intOf iv).toNat)
  case atStart => exact ⟨0, by omega, rfl, rfl⟩
  case round =>
    obtain ⟨i, hi, rfl, rfl⟩ := hrel
    by_cases hlt : i < n
    · have hit : decide ((i : Int) < (n : Int)) = true := decide_eq_true (by omega)
      have hitN : decide (i < n) = true := decide_eq_true hlt
      have h1 := Hb.out i (by omega)
      have h2 := Hb.out (i + 1) (by omega)
      have hs : Hid (q ^ (i + 1) = q ^ i * q) := Nat.pow_succ _ _
      obtain ⟨p, hp⟩ : ∃ p, p = q ^ (i + 1) := ⟨_, rfl⟩
      have hm : ((q ^ i : Nat) : Int) * (q : Int) = (p : Int) := by rw [hp, hs.out]; push_cast; rfl
      rw [← hp] at h2
      have Hp := Lib.hid hp; clear hp hs
      generalize ((q ^ i : Nat) : Int) = u at *
      clear h1
      go_wp2_with fail
      go_round
      case rel => exact ⟨i + 1, by omega, by go_num, by rw [← Hp.out]⟩
      case measure => simp [intOf]; omega
    · obtain rfl : i = n := by omega
      have hit : decide ((i : Int) < (i : Int)) = false := decide_eq_false (by omega)
      go_wp2_with fail
      go_ret
      exact ⟨rfl, rfl⟩


end OrdK
end Go.Proofs.Ytiiknpebphpeiaa
