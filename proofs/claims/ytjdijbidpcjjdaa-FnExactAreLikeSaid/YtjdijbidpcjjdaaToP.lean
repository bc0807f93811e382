/-
  The law's copy of a pair.
-/
import Derived.Test.YtjdijbidpcjjdaaRows
import Derived.Test.YtjdijbidpcjjdaaPairA
import Derived.Test.YtjdijbidpcjjdaaDicesW
import Derived.Test.YtjdijbidpcjjdaaDieW
import Derived.Test.YtjdijbidpcjjdaaOpenD
import Derived.Test.YtjdijbidpcjjdaaArr
import Derived.WalkKit
import Derived.WalkLawsBesides
import Derived.WalkSpells
import Derived.ProofKit
import Derived.OpenShut
import Derived.Deep.RegionWith
import Derived.Deep.QuietTactic
import Derived.BigQuiet
namespace Go.Proofs.Ytjdijbidpcjjdaa
open Go.ChangeShapes Go.WideShapes Go.ChangeAt Go.RowKit
open Go.ChangeMaps (open_string shut_string)

namespace ToP
open Dice Arr OpenD DieW DicesW PairA

theorem At.other6 {w : World} {b n p : Nat} {f : Nat → Int} (h : At w b n f) (hp : b ≠ p) (o : Nat) (g : Nat → Int) : At (set6 w p o g) b n f :=
  (((((h.other hp _ _).other hp _ _).other hp _ _).other hp _ _).other hp _ _).other hp _ _
theorem puts_pr (z a b : Nat → Int) : ∀ k, k < 12 → puts (puts z 0 a) 6 b k = pr a b k := by
  intro k hk
  by_cases h : k < 6
  · rw [puts_out b (.inl h), puts_in a (by omega) (by omega)]
    simp [pr, h]
  · rw [puts_in b (by omega) (by omega)]
    simp [pr, h]
theorem zero12 (w : World) {b : Nat} (hb : b = w.heap.size) : At (w.alloc (.cells #[.int .i64 0, .int .i64 0, .int .i64 0, .int .i64 0, .int .i64 0, .int .i64 0, .int .i64 0, .int .i64 0, .int .i64 0, .int .i64 0, .int .i64 0, .int .i64 0] 26)) b 12 (fun _ => 0) :=
  At.congr (At.new12 w (fun _ => 0) (fun _ => 0) 26 hb) fun k _ => by simp [pr]
set_option maxHeartbeats 2000000 in
theorem toPair_any (a b : Nat → Int) (w : World) :
    Calls Try.prog 13 #[pv a b] w fun e w' => e = .returned (pv a b) ∧ Below w.heap.size w w' := by
  have ht := toA6_any
  unfold dv at ht
  have Ht := Lib.hid ht; clear ht
  have hp := ((At.new12 w a b 24 rfl).past (twO (fun _ => 0) (fun _ => 0) 26)).past (twO (fun _ => 0) (fun _ => 0) 26)
  have hr := (zero12 (w.alloc (twO a b 24)) (b := w.heap.size + 1) (by rw [size_alloc])).past (twO (fun _ => 0) (fun _ => 0) 26)
  have hq := zero12 ((w.alloc (twO a b 24)).alloc (twO (fun _ => 0) (fun _ => 0) 26)) (b := w.heap.size + 2) (by rw [size_alloc, size_alloc])
  have hbl := na (na (na (n0 w) (twO a b 24)) (twO (fun _ => 0) (fun _ => 0) 26)) (twO (fun _ => 0) (fun _ => 0) 26)
  unfold pv
  go_enter Try.func13, Try.ntmps13
  go_wp2_with fail
  refine (Ht.out a _).mono ?_
  rintro e w1 ⟨rfl, hb1⟩
  have hp1 := hp.up hb1
  have hr1 := hr.up hb1
  have hq1 := hq.up hb1
  have hB1 := nx hbl hb1
  clear hp hr hq hb1 hbl
  obtain ⟨c0, c1, c2, c3, c4, c5, c6, c7, c8, c9, c10, c11⟩ := At.twelve hp1
  obtain ⟨q0, q1, q2, q3, q4, q5⟩ := (At.from6 hq1 0 (by omega))
  obtain ⟨f0, f1, f2, f3, f4, f5, f6, f7, f8, f9, f10, f11⟩ := At.free12 hq1
  go_wp2_with fail
  refine (Ht.out b _).mono ?_
  rintro e w2 ⟨rfl, hb2⟩
  have hr2 := (At.other6 hr1 (p := w.heap.size + 2) (by omega) 0 a).up hb2
  have hq2 := (At.put6 hq1 0 (by omega) a).up hb2
  have hB2 := nx (below6 hB1 (b := w.heap.size + 2) (by omega) 0 a) hb2
  clear hp1 hr1 hq1 hB1 hb2 c0 c1 c2 c3 c4 c5 c6 c7 c8 c9 c10 c11 q0 q1 q2 q3 q4 q5 f0 f1 f2 f3 f4 f5 f6 f7 f8 f9 f10 f11
  have hq3 := At.congr (At.put6 hq2 6 (by omega) b) (puts_pr _ a b)
  have hr3 := At.other6 hr2 (p := w.heap.size + 2) (by omega) 6 b
  have hB3 := below6 hB2 (b := w.heap.size + 2) (by omega) 6 b
  obtain ⟨q0, q1, q2, q3, q4, q5⟩ := (At.from6 hq2 6 (by omega))
  obtain ⟨f0, f1, f2, f3, f4, f5, f6, f7, f8, f9, f10, f11⟩ := At.free12 hq2
  obtain ⟨c0, c1, c2, c3, c4, c5, c6, c7, c8, c9, c10, c11⟩ := At.twelve hq3
  obtain ⟨z0, z1, z2, z3, z4, z5, z6, z7, z8, z9, z10, z11⟩ := At.free12 hr3
  have o0 := hr3.cell 0 (by omega); have o1 := hr3.cell 1 (by omega); have o2 := hr3.cell 2 (by omega); have o3 := hr3.cell 3 (by omega); have o4 := hr3.cell 4 (by omega); have o5 := hr3.cell 5 (by omega)
  have o6 := hr3.cell 6 (by omega); have o7 := hr3.cell 7 (by omega); have o8 := hr3.cell 8 (by omega); have o9 := hr3.cell 9 (by omega); have o10 := hr3.cell 10 (by omega); have o11 := hr3.cell 11 (by omega)
  go_wp2_with fail
  refine ret_cellS (b := w.heap.size + 1) (n := 12) (f := pr a b) Try.results13 rfl Try.underlying26 (by kernel_rfl) (hr3.stored (pr a b)) rfl ⟨rfl, ?_⟩
  exact hB3.trans (setCells_below (p := w.heap.size + 1) (B := w.heap.size) (by omega) (vals 12 (pr a b)) 0)

end ToP
end Go.Proofs.Ytjdijbidpcjjdaa
