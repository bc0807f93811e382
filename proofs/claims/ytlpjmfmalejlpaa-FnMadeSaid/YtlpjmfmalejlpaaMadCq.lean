/-
  A source of the numbers of a list, and the number of the next ones.
-/
import Derived.Test.YtlpjmfmalejlpaaRows
import Derived.Test.YtlpjmfmalejlpaaArr
import Derived.Test.YtlpjmfmalejlpaaDieW
import Derived.Test.YtlpjmfmalejlpaaAll6
import Derived.Test.YtlpjmfmalejlpaaOpenI
import Derived.Test.YtlpjmfmalejlpaaMadLq
import Derived.Test.YtlpjmfmalejlpaaOpenD
import Derived.WalkKit
import Derived.WalkLawsBesides
import Derived.WalkSpells
import Derived.ProofKit
import Derived.OpenShut
import Derived.Deep.RegionWith
import Derived.Deep.QuietTactic
import Derived.BigQuiet
namespace Go.Proofs.Ytlpjmfmalejlpaa
open Go.ChangeShapes Go.WideShapes Go.ChangeAt Go.RowKit
open Go.ChangeMaps (open_string shut_string)

namespace MadCq
open Dice Arr DieW All6 OpenG MadLq

/-- A source of the numbers of a list, of which some have been given. -/
def Src (w : World) (bu bl g n cp : Nat) (f : Nat → Int) (u : Nat) : Prop := At w bu 1 (fun _ => (u : Int)) ∧ (bl < w.heap.size ∧ w.cell? ⟨bl, 0, none⟩ = some (.slice (some ⟨g, 0, none⟩) n cp)) ∧ At w g n f ∧ bl ≠ bu ∧ g ≠ bu
theorem Src.kept {w w' : World} {bu bl g n cp u : Nat} {f : Nat → Int} {row : Option Nat} (h : Src w bu bl g n cp f u) (hg : w.grownBy w' row) (h1 : some bu ≠ row) (h2 : some bl ≠ row) (h3 : some g ≠ row) : Src w' bu bl g n cp f u :=
  ⟨keptA h.1 hg h1, ⟨Nat.lt_of_lt_of_le h.2.1.1 hg.size, (World.cell?_of_block (w := w) (hg.block bl h.2.1.1 h2)).trans h.2.1.2⟩, keptA h.2.2.1 hg h3, h.2.2.2⟩
theorem Src.up {w w' : World} {bu bl g n cp u : Nat} {f : Nat → Int} (h : Src w bu bl g n cp f u) (hb : Below w.heap.size w w') : Src w' bu bl g n cp f u :=
  h.kept (grown_of hb (Nat.le_refl _) none) (by simp) (by simp) (by simp)
theorem Src.past {w : World} {bu bl g n cp u : Nat} {f : Nat → Int} (h : Src w bu bl g n cp f u) (o : Obj) : Src (w.alloc o) bu bl g n cp f u := h.up ((Below.refl _ _).alloc (Nat.le_refl _) o)
theorem Src.step {w : World} {bu bl g n cp u v : Nat} {f : Nat → Int} (h : Src w bu bl g n cp f u) : Src (w.setCell ⟨bu, 0, none⟩ (.int .i64 (v : Int))) bu bl g n cp f v :=
  ⟨(h.1.set (i := 0) (by omega) (v : Int)).congr (fun k hk => by obtain rfl : k = 0 := by omega
                                                                 exact put_same _ _ _), ⟨by rw [World.size_setCell]; exact h.2.1.1, (World.cell?_of_block (w := w) ((grown_set (j := 0) (v := .int .i64 (v : Int)) (grown_self w (some bu))).block bl h.2.1.1 (fun e => h.2.2.2.1 (by injection e)))).trans h.2.1.2⟩, h.2.2.1.other h.2.2.2.2 _ _, h.2.2.2⟩

set_option maxRecDepth 100000 in
set_option maxHeartbeats 4000000 in
theorem clos_any (bu bl g n cp u : Nat) (f : Nat → Int) (w : World) (hS : Src w bu bl g n cp f u) (hu : u < n) (hn : n ≤ 1048576) :
    Calls Try.prog 46 #[.pointer (some ⟨bu, 0, none⟩), .pointer (some ⟨bl, 0, none⟩)] w fun e w' => e = .returned (.int .i64 (f u)) ∧ Src w' bu bl g n cp f (u + 1) ∧ w.grownBy w' (some bu) := by
  have hc := (hS.step (v := u + 1))
  have e1 : ((u + 1 : Nat) : Int) = (u : Int) + 1 := by push_cast; rfl
  rw [e1] at hc
  have c0 := hS.1.cell 0 (by omega)
  have z0 := hS.1.free 0
  have c1 := hc.1.cell 0 (by omega)
  have c2 := hc.2.1.2
  have c3 := hc.2.2.1.cell u hu
  have Hc := Lib.hid hc; clear hc
  have hd : ((u + 1 : Nat) : Int) - 1 = (u : Int) := by omega
  go_enter Try.func46, Try.ntmps46
  go_wp2_with fail
  go_ret
  exact ⟨rfl, Hc.out, grown_set (grown_self w (some bu))⟩

set_option maxRecDepth 100000 in
set_option maxHeartbeats 4000000 in
theorem source_any (g n cp : Nat) (f : Nat → Int) (w : World) (hA : At w g n f) :
    Calls Try.prog 34 #[.slice (some ⟨g, 0, none⟩) n cp] w fun e w' => ∃ bu bl, e = .returned (.func (.func 46) #[] #[.pointer (some ⟨bu, 0, none⟩), .pointer (some ⟨bl, 0, none⟩)]) ∧ Src w' bu bl g n cp f 0 ∧ w.heap.size ≤ bu ∧ w.heap.size ≤ bl ∧ Below w.heap.size w w' := by
  have hmf : ∀ (fn : Fn) (first cap : Array Value) (w : World), (Instr.makeFunc fn first cap).run Try.prog w = .ok (.func fn first cap) w := fun _ _ _ _ => rfl
  have hgl := hA.lt
  have hB0 := na (na (n0 w) (.cells #[.slice (some ⟨g, 0, none⟩) n cp] 24)) (.cells #[.int .i64 0] 3)
  have hA0 := (hA.past (.cells #[.slice (some ⟨g, 0, none⟩) n cp] 24)).past (.cells #[.int .i64 0] 3)
  have hU0 : At ((w.alloc (.cells #[.slice (some ⟨g, 0, none⟩) n cp] 24)).alloc (.cells #[.int .i64 0] 3)) (w.heap.size + 1) 1 (fun _ => ((0 : Nat) : Int)) := by
    have h := At.new (w.alloc (.cells #[.slice (some ⟨g, 0, none⟩) n cp] 24)) #[.int .i64 0] 3 1 (fun _ => ((0 : Nat) : Int)) (fun k hk => by cases Nat.lt_one_iff.mp hk; rfl)
    rw [size_alloc] at h
    exact h
  have hL0 : ((w.alloc (.cells #[.slice (some ⟨g, 0, none⟩) n cp] 24)).alloc (.cells #[.int .i64 0] 3)).cell? ⟨w.heap.size, 0, none⟩ = some (.slice (some ⟨g, 0, none⟩) n cp) := by
    have h1 : (w.alloc (.cells #[.slice (some ⟨g, 0, none⟩) n cp] 24)).cell? ⟨w.heap.size, 0, none⟩ = some (.slice (some ⟨g, 0, none⟩) n cp) := by
      rw [World.cell?_alloc_at _ _ _ _ rfl]
      rfl
    exact ((na (n0 (w.alloc (.cells #[.slice (some ⟨g, 0, none⟩) n cp] 24))) (.cells #[.int .i64 0] 3)).cell (p := ⟨w.heap.size, 0, none⟩) (by show w.heap.size < _; rw [size_alloc]; omega)).trans h1
  have hS : Src ((w.alloc (.cells #[.slice (some ⟨g, 0, none⟩) n cp] 24)).alloc (.cells #[.int .i64 0] 3)) (w.heap.size + 1) w.heap.size g n cp f 0 := ⟨hU0, ⟨by rw [size_alloc, size_alloc]; omega, hL0⟩, hA0, by omega, by omega⟩
  have HS := Lib.hid hS
  clear hS hL0 hA0 hA
  have c0 := hU0.cell 0 (by omega)
  have z0 := hU0.free 0
  go_enter Try.func34, Try.ntmps34
  go_wp2_with fail
  go_ret
  exact ⟨w.heap.size + 1, w.heap.size, rfl, HS.out, Nat.le_succ _, Nat.le_refl _, hB0⟩

set_option maxRecDepth 100000 in
set_option maxHeartbeats 4000000 in
theorem next_any (bu bl g n cp u d : Nat) (b : Int) (f : Nat → Int) (w : World) (hS : Src w bu bl g n cp f u) (hud : u + d ≤ n) (hd : d ≤ 6) (hb : 1 ≤ b ∧ b ≤ 6) (hf : ∀ j, j < n → 0 ≤ f j ∧ f j < b) (hn : n ≤ 1048576) :
    Calls Try.prog 33 #[.func (.func 46) #[] #[.pointer (some ⟨bu, 0, none⟩), .pointer (some ⟨bl, 0, none⟩)], .int .i64 b, .int .i64 d] w fun e w' => e = .returned (.int .i64 (nb b (fun i => f (u + i)) d)) ∧ Src w' bu bl g n cp f (u + d) ∧ w.grownBy w' (some bu) := by
  have Hcl := Lib.hid (fun (k : Nat) (w : World) (hS : Src w bu bl g n cp f (u + k)) (hk : u + k < n) => clos_any bu bl g n cp (u + k) f w hS hk hn)
  have HS := Lib.hid hS; clear hS
  have Hnb : Hid (∀ k, k ≤ d → 0 ≤ nb b (fun i => f (u + i)) k ∧ nb b (fun i => f (u + i)) k ≤ 46655 ∧ (k ≤ 5 → nb b (fun i => f (u + i)) k ≤ 7775)) := fun k hk => nb_le hb (by omega) (fun j hj => hf (u + j) (by omega))
  have Hf := Lib.hid hf; clear hf
  go_enter Try.func33, Try.ntmps33
  go_wp2_with fail
  go_loopw [7, 9] (fun sv kv wr => ∃ k : Nat, k ≤ d ∧ kv = .int .i64 k ∧ sv = .int .i64 (nb b (fun i => f (u + i)) k) ∧ Src wr bu bl g n cp f (u + k) ∧ w.grownBy wr (some bu)) (fun _ kv _ => d - (intOf kv).toNat)
  case atStart => exact ⟨0, by omega, rfl, rfl, HS.out, grown_self _ _⟩
  case round =>
    obtain ⟨k, hk, rfl, rfl, hS, hG⟩ := hrel
    by_cases hlt : k < d
    · have hit : decide ((k : Int) < (d : Int)) = true := decide_eq_true (by omega)
      have hitN : decide (k < d) = true := decide_eq_true hlt
      have hfk := Hf.out (u + k) (by omega)
      obtain ⟨q0, q1, q2⟩ := Hnb.out k hk
      have q2 := q2 (by omega)
      have hs : Hid (nb b (fun i => f (u + i)) (k + 1) = nb b (fun i => f (u + i)) k * b + f (u + k)) := rfl
      obtain ⟨r0, r1, _⟩ := Hnb.out (k + 1) (by omega)
      rw [hs.out] at r0 r1
      generalize nb b (fun i => f (u + i)) k = x at *
      have hm0 : 0 ≤ x * b := Int.mul_nonneg q0 (by omega)
      obtain ⟨y, hy⟩ : ∃ y, y = x * b := ⟨_, rfl⟩
      rw [← hy] at r0 r1 hm0 hs
      have hy' : x * b = y := hy.symm
      clear hy
      go_wp2_with fail
      refine (Hcl.out k _ hS (by omega)).mono ?_
      rintro e w1 ⟨rfl, hS1, hG1⟩
      have hG2 := grown_trans hG hG1
      clear hS hG hG1
      rw [Nat.add_assoc] at hS1
      go_wp2_with fail
      go_roundw
      case rel => exact ⟨k + 1, by omega, by go_num, by rw [hs.out], hS1, hG2⟩
      case measure => simp [intOf]; omega
    · obtain rfl : k = d := by omega
      have hit : decide ((k : Int) < (k : Int)) = false := decide_eq_false (by omega)
      go_wp2_with fail
      go_ret
      exact ⟨rfl, hS, hG⟩


end MadCq
end Go.Proofs.Ytlpjmfmalejlpaa
