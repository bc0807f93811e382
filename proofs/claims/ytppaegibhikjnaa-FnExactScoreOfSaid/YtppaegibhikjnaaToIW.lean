/-
  The law's own copy of a list of integers.
-/
import Derived.Test.YtppaegibhikjnaaRows
import Derived.Test.YtppaegibhikjnaaArr
import Derived.Test.YtppaegibhikjnaaAll6
import Derived.Test.YtppaegibhikjnaaDicesW
import Derived.Test.YtppaegibhikjnaaOwnL
import Derived.Test.YtppaegibhikjnaaOpenG
import Derived.Test.YtppaegibhikjnaaIntsW
import Derived.Test.YtppaegibhikjnaaOpenD
import Derived.WalkKit
import Derived.WalkLawsBesides
import Derived.WalkSpells
import Derived.ProofKit
import Derived.OpenShut
import Derived.Deep.RegionWith
import Derived.Deep.QuietTactic
import Derived.BigQuiet
namespace Go.Proofs.Ytppaegibhikjnaa
open Go.ChangeShapes Go.WideShapes Go.ChangeAt Go.RowKit
open Go.ChangeMaps (open_string shut_string)

namespace ToIW
open Dice Arr OpenD OwnL All6 DicesW OpenG IntsW


set_option maxHeartbeats 2000000 in
theorem toInts_any (A : Option Addr) (n c : Nat) (f : Nat → Int) (w : World) (h : RowI w A n f) (hn : n ≤ 1048576) :
    Calls Try.prog 19 #[.slice A n c] w fun e w' => ∃ g, e = .returned (.slice (some ⟨g, 0, none⟩) n n) ∧ w.heap.size ≤ g ∧ At w' g n f ∧ Below w.heap.size w w' := by
  obtain ⟨w1, hr, hZ, hb⟩ := make_ints w n hn
  have H := Lib.hid h; clear h
  obtain ⟨g, hg⟩ : ∃ g, g = w.heap.size := ⟨_, rfl⟩
  rw [← hg] at hr hZ
  have hgl : w.heap.size ≤ g := Nat.le_of_eq hg.symm
  clear hg
  go_enter Try.func19, Try.ntmps19
  go_wp2_with fail
  clear hr
  go_loopw [4] (fun iv wr => ∃ (i : Nat) (F : Nat → Int), i ≤ n ∧ iv = .int .i64 i ∧ At wr g n F ∧ Hid (∀ j, j < i → F j = f j) ∧ Below w.heap.size w wr) (fun iv _ => n - (intOf iv).toNat)
  case atStart => exact ⟨0, fun _ => 0, by omega, rfl, hZ, fun j hj => by omega, hb⟩
  case round =>
    clear hZ hb
    obtain ⟨i, F, hi, rfl, hA, hdone, hB⟩ := hrel
    by_cases hlt : i < n
    · have hit : decide ((i : Int) < (n : Int)) = true := decide_eq_true (by omega)
      obtain ⟨b, o, rfl, hbl, ci⟩ := (H.out.up hB).at_ hlt
      have fi := hA.free i
      have di := hA.cell i hlt
      go_wp2_with fail
      go_roundw
      case rel =>
        refine ⟨i + 1, put F i (f i), by omega, by go_num, hA.set hlt _, fun j hj => ?_, hB.setCell (p := ⟨g, i, none⟩) hgl _⟩
        by_cases hji : j = i
        · subst hji; exact put_same _ _ _
        · rw [put_other _ hji]; exact hdone.out j (by omega)
      case measure => simp [intOf]; omega
    · obtain rfl : i = n := by omega
      have hit : decide ((i : Int) < (i : Int)) = false := decide_eq_false (by omega)
      go_wp2_with fail
      go_ret
      exact ⟨g, rfl, hgl, hA.congr hdone.out, hB⟩


end ToIW
end Go.Proofs.Ytppaegibhikjnaa
