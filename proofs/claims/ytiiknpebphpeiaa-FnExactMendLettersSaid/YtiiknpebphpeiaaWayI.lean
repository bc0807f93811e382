/-
  The program's list of ways.
-/
import Derived.Test.YtiiknpebphpeiaaRows
import Derived.Test.YtiiknpebphpeiaaArr
import Derived.Test.YtiiknpebphpeiaaDieW
import Derived.Test.YtiiknpebphpeiaaSortW
import Derived.Test.YtiiknpebphpeiaaDicesW
import Derived.Test.YtiiknpebphpeiaaPoolW
import Derived.Test.YtiiknpebphpeiaaAll6
import Derived.Test.YtiiknpebphpeiaaIntsW
import Derived.Test.YtiiknpebphpeiaaRollN
import Derived.Test.YtiiknpebphpeiaaRollS
import Derived.Test.YtiiknpebphpeiaaFour
import Derived.Test.YtiiknpebphpeiaaOrdM
import Derived.Test.YtiiknpebphpeiaaOrdT
import Derived.Test.YtiiknpebphpeiaaOrdW
import Derived.Test.YtiiknpebphpeiaaOrdO
import Derived.Test.YtiiknpebphpeiaaOrdI
import Derived.Test.YtiiknpebphpeiaaOrdK
import Derived.Test.YtiiknpebphpeiaaAnyR
import Derived.Test.YtiiknpebphpeiaaMapO
import Derived.Test.YtiiknpebphpeiaaShelfMax
import Derived.Test.YtiiknpebphpeiaaOrdN
import Derived.Test.YtiiknpebphpeiaaOrdL
import Derived.Test.YtiiknpebphpeiaaCntI
import Derived.Test.YtiiknpebphpeiaaOwnL
import Derived.Test.YtiiknpebphpeiaaOpenD
import Derived.WalkKit
import Derived.WalkLawsBesides
import Derived.WalkSpells
import Derived.ProofKit
import Derived.OpenShut
import Derived.Deep.RegionWith
import Derived.Deep.QuietTactic
import Derived.BigQuiet
namespace Go.Proofs.Ytiiknpebphpeiaa
open Go.ChangeShapes Go.WideShapes Go.ChangeAt Go.RowKit
open Go.ChangeMaps (open_string shut_string)

namespace WayI
open Dice Arr OpenD DieW SortW DicesW PoolW All6 IntsW RollW Four OwnL OrdM OrdT OrdW OrdO OrdI OrdK AnyR MapO OrdN OrdL CntI


theorem wp_look {P : Program} (w : World) {ops : Array Oper} {rest : List Oper} {o : Oper} {a : Act} {Q : Exit → Act → World → Prop} (hg : o.guard = none) (m x : Operand) (t : TypeId) (c : Bool) (hop : o.op = Op.lookup t m x c)
    {mv key v : Value} (hm : a.eval m = mv) (hx : a.eval x = key) (hrun : (Instr.lookup t mv key c).run P w = .ok v w) (hK : wpList P ops Q rest (a.put o.dst v) w) : wpList P ops Q (o :: rest) a w := by
  refine wpList_plain hg fun K' hK' => ?_
  unfold Oper.wp
  simp [execOp, hop, hm, hx, hrun, Result.andThen]
  exact hK' _ _ hK
theorem ints_own {w : World} {B n : Nat} {v : Value} {f : Nat → Int} (h : w.ownsRow B 3 1 v n (vals n f)) : ∃ A c, v = .slice A n c ∧ Ints B w A n f := by
  rcases h.2 with ⟨he, hn⟩ | ⟨g, cap, cur, he, hb, _⟩
  · subst he
    exact ⟨none, 0, by rw [hn], .inl hn⟩
  · subst he
    exact ⟨some ⟨g, 0, none⟩, cap, rfl, .inr ⟨g, rfl, hb, At.of_own h⟩⟩
/-- How often each order of a list comes. -/
def wf (F : Q4 → Nat) (L : List Q4) (i : Nat) : Int := (F (L.getD i (0, 0, 0, 0)) : Nat)

set_option maxRecDepth 20000 in
set_option maxHeartbeats 4000000 in
theorem inOrder_any (m k n : Nat) (F : Q4 → Nat) (w : World) (hM : Mapped w m k F) (h1 : 1 ≤ n) (h4 : n ≤ 4) (hF : ∀ q, F q ≤ 1296) :
    Calls Try.prog 75 #[.map (some m), .int .i64 n] w fun e w' => ∃ A c, e = .returned (.slice A (ordL n).length c) ∧ Ints w.heap.size w' A (ordL n).length (wf F (ordL n)) ∧ Below w.heap.size w w' := by
  have Hs := Lib.hid (fun w => implOL_any n w)
  have e2 := (outL_yes (n := n) ⟨h1, h4⟩).2
  rw [e2] at Hs
  have hl24 := (ordI_len h1 h4 n (Nat.le_refl _)).1
  have hl1 := (ordI_len h1 h4 n (Nat.le_refl _)).2
  have Hs := Lib.hid Hs
  have Hfit := Lib.hid (fun q (hq : q ∈ ordL n) => fit_ord h4 hq)
  have hin : Hid (∀ i, i < (ordL n).length → (ordL n).getD i (0, 0, 0, 0) ∈ ordL n) := fun i hi => by
    rw [List.getD_eq_getElem?_getD, List.getElem?_eq_getElem hi]
    exact List.getElem_mem hi
  have hl24' : (ordL n).length ≤ 24 := hl24
  have hl1' : 1 ≤ (ordL n).length := hl1
  clear hl24 hl1 e2
  generalize ordL n = L at *
  obtain ⟨i0, hi, hz0, hz1, hz2⟩ := info_parts RollW.info_int
  have Hi := Lib.hid (And.intro hi (And.intro hz0 (And.intro hz1 hz2)))
  clear hi hz0 hz1 hz2
  have HM := Lib.hid hM; clear hM
  have HF := Lib.hid hF; clear hF
  go_enter Try.func75, Try.ntmps75
  go_wp2_with fail
  refine (Hs.out _).mono ?_
  rintro e w2 ⟨A, c, rfl, hO, hb⟩
  obtain ⟨b, rfl, hbB, hL0⟩ := hO.at_ (by omega)
  have HL := Lib.hid hL0; clear hL0 hO hbB
  have Hb2 := Lib.hid hb
  have hsz := hb.size
  go_wp2_with fail
  go_loopw [5, 17] (fun v iv wr => ∃ i : Nat, i ≤ L.length ∧ iv = .int .i64 i ∧ wr.ownsRow w2.heap.size 3 1 v i (vals i (wf F L)) ∧ Below w2.heap.size w2 wr) (fun _ iv _ => L.length - (intOf iv).toNat)
  case atStart => exact ⟨0, Nat.zero_le _, rfl, World.ownsRow_nil _ _ _ _, Below.refl _ _⟩
  case round =>
    obtain ⟨i, hi, rfl, hO, hB⟩ := hrel
    by_cases hlt : i < L.length
    · have hit : decide ((i : Int) < (L.length : Int)) = true := decide_eq_true (by omega)
      have hitN : decide (i < L.length) = true := decide_eq_true hlt
      have hL := HL.out.up hB
      have hq := Hfit.out _ (hin.out i hlt)
      have hat := fun k (hk : k < 4) => ofL_at L i hk
      obtain ⟨y0, y1, y2, y3⟩ := At.from4 hL (i * 4) (by omega)
      rw [show ofL L (i * 4) = qa (L.getD i (0, 0, 0, 0)) 0 from hat 0 (by omega)] at y0
      rw [hat 1 (by omega)] at y1
      rw [hat 2 (by omega)] at y2
      rw [hat 3 (by omega)] at y3
      have hwf : wf F L i = (F (L.getD i (0, 0, 0, 0)) : Nat) := rfl
      have hvs := vals_snoc i (wf F L)
      rw [hwf] at hvs
      have hfl := HF.out (L.getD i (0, 0, 0, 0))
      have hMr := ((HM.out.up Hb2.out).up hB)
      clear hat hwf hL
      generalize L.getD i (0, 0, 0, 0) = q at *
      have hlk := (hMr.up ((Below.refl _ wr).alloc (Nat.le_refl _) (fourO (qa q) 26))).look hq
      have Hlk := Lib.hid hlk; clear hlk hMr
      have hX := At.new4 wr (qa q) 26 rfl
      obtain ⟨x0, x1, x2, x3⟩ := At.four hX
      have hO1 := OwnL.own_up hO ((Below.refl _ wr).alloc (Nat.le_refl _) (fourO (qa q) 26))
      have hB1 := hB.alloc hB.size (fourO (qa q) 26)
      have hsr := hB.size
      have Hvs := Lib.hid hvs; clear hvs
      generalize F q = cq at *
      clear hO hB hX
      have hW : Hid (∃ W, W = wr.alloc (fourO (qa q) 26)) := ⟨_, rfl⟩
      go_wp2_with (first | (at_lookup; refine wp_look _ rfl _ _ _ _ rfl rfl rfl Hlk.out ?_) | (at_builtin; refine wpList_append_own _ rfl _ _ 39 rfl (w2.heap.size) 3 i0 (.int .i64 0) 1 8 Try.underlying39 Hi.out.1 Hi.out.2.1 Hi.out.2.2.1 Hi.out.2.2.2 rfl (by decide) _ _ _ rfl (hO1.alloc _) ⟨_, 0, none⟩ 1 1 [.int .i64 (cq : Nat)] rfl rfl ?c1 ?c2 ?c3 ?c4 ?c5 ?_))
      case c1 => exact news_one (by rw [← size_alloc wr (fourO (qa q) 26)]; exact cell_one _ _ _)
      case c2 => intro u hu; simp at hu; subst hu; rfl
      case c3 => unfold maxLen; omega
      case c4 => omega
      case c5 => simp; omega
      · intro v' w4 hO4 hg4 _
        have hB4 := (hB1.alloc hB1.size (.cells #[.int .i64 (cq : Nat)] 3)).grown hg4 (by rw [size_alloc]; exact Nat.le_trans hB1.size (Nat.le_succ _)) (fun t e => (hO1.lt t e).1)
        rw [Hvs.out] at hO4
        clear hg4
        go_wp2_with fail
        go_roundw
        case rel => exact ⟨i + 1, by omega, by go_num, hO4, hB4⟩
        case measure => simp [intOf]; omega
    · obtain rfl : i = L.length := by omega
      have hit : decide ((L.length : Int) < (L.length : Int)) = false := decide_eq_false (by omega)
      obtain ⟨A, c2, rfl, hI⟩ := ints_own hO
      clear hO
      go_wp2_with fail
      go_ret
      exact ⟨A, c2, rfl, hI.mono hsz, nx Hb2.out hB⟩


end WayI
end Go.Proofs.Ytiiknpebphpeiaa
