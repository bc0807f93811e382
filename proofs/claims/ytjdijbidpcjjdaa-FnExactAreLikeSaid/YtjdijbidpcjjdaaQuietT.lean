/-
  A region that only reads, walked once: whole tables and calls.
-/
import Derived.Test.YtjdijbidpcjjdaaRows
import Derived.Test.YtjdijbidpcjjdaaTableIM
import Derived.Test.YtjdijbidpcjjdaaTableWM
import Derived.Test.YtjdijbidpcjjdaaTableM
import Derived.Test.YtjdijbidpcjjdaaSumsM
import Derived.Test.YtjdijbidpcjjdaaOpenD
import Derived.WalkKit
import Derived.WalkLawsBesides
import Derived.WalkSpells
import Derived.ProofKit
import Derived.OpenShut
import Derived.Deep.RegionWith
import Derived.Deep.WholeRow
import Derived.Deep.QuietTactic
import Derived.BigQuiet
namespace Go.Proofs.Ytjdijbidpcjjdaa
open Go.ChangeShapes Go.WideShapes Go.ChangeAt Go.RowKit
open Go.ChangeMaps (open_string shut_string)

namespace QuietT
open Dice Arr OpenD DieW SumsW Table TableW TableI

section
variable {C : World → Prop} {K : Act → Prop} {a : Act} {o : Oper}
/-- A whole table read, in every world of the class. -/
theorem quiet_ld (x : Operand) (ho : o.op = .load 54 x) {b : Nat} {f : Nat → Int} (hx : a.eval x = .pointer (some ⟨b, 0, none⟩)) (hC : ∀ w, C w → At w b 121 f)
    (hk : K (a.put o.dst (tv f))) : o.quiet Try.prog a C K :=
  ⟨tv f, fun w hw => by
    unfold Oper.quietAt execOp
    simp only [ho, hx, Instr.loadAt, Instr.sureAddr, Sem.run_bind, Sem.run_pure, Result.andThen_ok, (hC w hw).loadVar Try.underlying54 size_run]
    exact ⟨rfl, rfl⟩, hk⟩
theorem quiet_len (t : Tmp) (ho : o.op = .call { callee := .builtin .len, args := #[.tmp t], argTypes := #[41] }) {A : Option Addr} {n c : Nat} (hx : a.tmps[t]?.getD undef = .slice A n c)
    (hk : K (a.put o.dst (.int .i64 n))) : o.quiet Try.prog a C K :=
  ⟨.int .i64 n, fun w hw => by
    clear hw
    unfold Oper.quietAt execOp
    simp [go_sem, ho, hx], hk⟩
set_option maxRecDepth 100000 in
theorem quiet_eql (x y : Operand) {f g : Nat → Int} (ho : o.op = .binOp .eql 54 x y 54) (hx : a.eval x = tv f) (hy : a.eval y = tv g)
    (hk : K (a.put o.dst (.bool (decide (agree f g 121))))) : o.quiet Try.prog a C K :=
  ⟨_, fun w hw => by
    clear hw
    unfold Oper.quietAt execOp
    simp only [ho, hx, hy]
    have this : (Op.equalIn 10000 54 (.agg (vals 121 f).toArray) (.agg (vals 121 g).toArray)).run Try.prog w = .ok (decide (agree f g 121)) w := run_equalIn_vals (P := Try.prog) w 9998 54 3 121 Try.underlying54 Try.underlying3 (fun w => by rfl) f g
    simp [this, go_sem], hk⟩
end


end QuietT
end Go.Proofs.Ytjdijbidpcjjdaa
