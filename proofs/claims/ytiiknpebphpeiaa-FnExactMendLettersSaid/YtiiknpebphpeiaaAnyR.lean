/-
  A region that draws its order, by an invariant over what has been done; without any program.
-/
import Derived.Test.YtiiknpebphpeiaaArr
import Derived.WalkKit
import Derived.WalkLawsBesides
import Derived.WalkSpells
import Derived.ProofKit
import Derived.OpenShut
import Derived.Deep.RegionWith
import Derived.StillTail
import Derived.Orders
import Derived.Deep.QuietTactic
import Derived.BigQuiet
namespace Go.Proofs.Ytiiknpebphpeiaa
open Go.ChangeShapes Go.WideShapes Go.ChangeAt Go.RowKit
open Go.ChangeMaps (open_string shut_string)

namespace AnyR
open Arr

/-- All edges go back. -/
def dagB (ops : Array Oper) : Bool := (List.range ops.size).all fun j => match ops[j]? with
  | some o => o.after.all fun e => !Region.binds .any e || decide (e.on < j)
  | none => true
theorem dag_spec {ops : Array Oper} (h : dagB ops = true) {j : Nat} {o : Oper} (hj : ops[j]? = some o) : ∀ e ∈ o.after, Region.binds .any e = true → e.on < j := fun e he hb => by
  have h1 := List.all_eq_true.1 h j (List.mem_range.2 (Array.getElem?_eq_some_iff.1 hj).1)
  simp only [hj] at h1
  have h2 := (Array.all_eq_true_iff_forall_mem.1 h1) e he
  simpa [hb] using h2
section
variable {P : Program} {ops : Array Oper} {Q : Exit → Act → World → Prop}
/-- One operation after. -/
def done (L : Nat → Bool) (i : Nat) : Nat → Bool := fun j => if j = i then true else L j
theorem wpOp_want {i : Nat} {o : Oper} {K : Act → World → Prop} {a : Act} {w : World} (hi : ops[i]? = some o) (hw : Region.wanted o (yielded ops a.tmps) = true) (h : o.wp P a w K Q) : wpOp P ops Q i K a w := by
  unfold wpOp
  simp only [hi, hw, if_true]
  exact .inl h
theorem all_listed (hdag : dagB ops = true) {listed : Array Bool} (hs : listed.size = ops.size) (hr : Region.ready .any ops listed = []) : ∀ j, j < ops.size → listed.getD j false = true := by
  intro j
  induction j using Nat.strongRecOn with
  | _ j ih =>
    intro hj
    cases hl : listed.getD j false with
    | true => rfl
    | false =>
      have hin : j ∈ Region.ready .any ops listed := mem_ready.2 ⟨getD_in (by omega) hl, ops[j], by simp [hj], fun e he hb => by
        have := dag_spec hdag (show ops[j]? = some ops[j] by simp [hj]) e he hb
        exact ih e.on this (by omega)⟩
      rw [hr] at hin
      cases hin
theorem getD_done {listed : Array Bool} {i : Nat} (hi : i < listed.size) : (fun j => (listed.setIfInBounds i true).getD j false) = done (fun j => listed.getD j false) i := by
  funext j
  unfold done
  by_cases h : j = i
  · subst h
    rw [if_pos rfl]
    simp [hi]
  · rw [if_neg h, getD_set_ne false (Ne.symm h)]
theorem count_set {l : List Bool} {i : Nat} (hi : i < l.length) (h : l[i] = false) : (l.set i true).count false + 1 = l.count false := by
  rw [List.count_set hi, h]
  have : 0 < l.count false := List.count_pos_iff.2 (h ▸ List.getElem_mem hi)
  simp
  omega
theorem wpAny_inv (I : (Nat → Bool) → Act → World → Prop) (hdag : dagB ops = true)
    (hstep : ∀ L a w i, i < ops.size → L i = false → (∀ j, Region.waitsFor .any ops i j = true → L j = true) → I L a w → wpOp P ops Q i (I (done L i)) a w)
    (hdone : ∀ L a w, (∀ j, j < ops.size → L j = true) → I L a w → Q .normal a w) :
    ∀ (fuel : Nat) (listed : Array Bool) (a : Act) (w : World), listed.size = ops.size → listed.toList.count false ≤ fuel → I (fun j => listed.getD j false) a w → wpAny P .any ops Q fuel listed a w := by
  intro fuel
  induction fuel with
  | zero =>
    intro listed a w hs hc hI
    have hr : Region.ready .any ops listed = [] := by
      cases hr : Region.ready .any ops listed with
      | nil => rfl
      | cons i rs =>
        have hin : i ∈ Region.ready .any ops listed := by rw [hr]; exact List.mem_cons_self
        obtain ⟨h1, o, ho, _⟩ := mem_ready.1 hin
        have hlt : i < listed.size := by rw [hs]; exact (Array.getElem?_eq_some_iff.1 ho).1
        have h2 : listed.toList[i]'(by simpa using hlt) = false := by simpa [hlt] using h1
        have : 0 < listed.toList.count false := List.count_pos_iff.2 (h2 ▸ List.getElem_mem _)
        omega
    exact ⟨hr, hdone _ a w (all_listed hdag hs hr) hI⟩
  | succ fuel ih =>
    intro listed a w hs hc hI
    refine ⟨fun hr => hdone _ a w (all_listed hdag hs hr) hI, fun i hi => ?_⟩
    obtain ⟨h1, o, ho, hall⟩ := mem_ready.1 hi
    have hlt : i < ops.size := (Array.getElem?_eq_some_iff.1 ho).1
    have hlt' : i < listed.size := by omega
    have hst := hstep (fun j => listed.getD j false) a w i hlt (getD_both h1) (fun j hj => by
      obtain ⟨oj, hoj, e, he, hb, hon⟩ := Region.waitsFor_spec hj
      have : oj = o := Option.some.inj (hoj.symm.trans ho)
      subst this
      rw [← hon]
      exact hall e he hb) hI
    refine wpOp_mono (fun a' w' hI' => ih _ a' w' (by simpa using hs) ?_ ?_) hst
    · have h2 : listed.toList[i]'(by simpa using hlt') = false := by simpa [hlt'] using h1
      have := count_set (l := listed.toList) (i := i) (by simpa using hlt') h2
      rw [Array.toList_setIfInBounds]
      omega
    · rw [getD_done hlt']
      exact hI'
/-- A region that draws its order, by an invariant over what has been done. -/
theorem wp_region_inv {id : Nat} {a : Act} {w : World} (I : (Nat → Bool) → Act → World → Prop) (hm : P.follows .mixedOrders = true) (hdag : dagB ops = true)
    (h0 : I (fun _ => false) a { w with drawn := w.drawn + 1 })
    (hstep : ∀ L a w i, i < ops.size → L i = false → (∀ j, Region.waitsFor .any ops i j = true → L j = true) → I L a w → wpOp P ops Q i (I (done L i)) a w)
    (hdone : ∀ L a w, (∀ j, j < ops.size → L j = true) → I L a w → Q .normal a w) : (Code.region id ops true).wp P Q a w := by
  refine wp_region_any hm (wpAny_inv I hdag hstep hdone _ _ _ _ (by simp) ?_ ?_)
  · simp
  · have e : (fun j => (Array.replicate ops.size false).getD j false) = fun _ => false := by funext j; exact getD_replicate_false _ _
    rw [e]
    exact h0
/-- The same, with what is known of the done ones: all that they wait for is done. -/
theorem wp_region_inc {id : Nat} {a : Act} {w : World} (I : (Nat → Bool) → Act → World → Prop) (hm : P.follows .mixedOrders = true) (hdag : dagB ops = true)
    (h0 : I (fun _ => false) a { w with drawn := w.drawn + 1 })
    (hstep : ∀ L a w i, i < ops.size → L i = false → (∀ j, Region.waitsFor .any ops i j = true → L j = true) → (∀ i j, L i = true → Region.waitsFor .any ops i j = true → L j = true) → I L a w → wpOp P ops Q i (I (done L i)) a w)
    (hdone : ∀ L a w, (∀ j, j < ops.size → L j = true) → (∀ i j, L i = true → Region.waitsFor .any ops i j = true → L j = true) → I L a w → Q .normal a w) : (Code.region id ops true).wp P Q a w := by
  refine wp_region_inv (I := fun L a w => (∀ i j, L i = true → Region.waitsFor .any ops i j = true → L j = true) ∧ I L a w) hm hdag ⟨(fun i j h => by cases h), h0⟩ ?_ ?_
  · intro L a w i hi hL hdep hI
    refine wpOp_mono (fun a' w' hI' => ⟨?_, hI'⟩) (hstep L a w i hi hL hdep hI.1 hI.2)
    intro x y hx hxy
    unfold done at hx ⊢
    by_cases hy : y = i
    · rw [if_pos hy]
    · rw [if_neg hy]
      by_cases hxi : x = i
      · subst hxi
        exact hdep y hxy
      · rw [if_neg hxi] at hx
        exact hI.1 x y hx hxy
  · intro L a w hL hI
    exact hdone L a w hL hI.1 hI.2
end


end AnyR
end Go.Proofs.Ytiiknpebphpeiaa
