/-
  Contracts of the two functions that read a number's decimal text, for every text up to a bound.
-/
import Derived.Test.YthmeagmabidniaaDoorRows
import Derived.Test.YthmeagmabidniaaDoorFormatW
import Derived.Test.YthmeagmabidniaaDoorParse
import Derived.Lib.AtoiTie
namespace Go.Proofs.YthmeagmabidniaaDoor
open Go.RowKit

namespace ParseW
open NumW FormatW Parse

/-- What both readers hand back. -/
def parseV (l : List UInt8) : Value := .tuple #[.int .i64 ((parseR l).getD 0), .bool (parseR l).isSome]
theorem parseV_none {l : List UInt8} (h : parseR l = none) : parseV l = .tuple #[.int .i64 0, .bool false] := by unfold parseV; rw [h]; rfl
theorem parseV_some {l : List UInt8} {v : Int} (h : parseR l = some v) : parseV l = .tuple #[.int .i64 v, .bool true] := by unfold parseV; rw [h]; rfl

theorem toList_data (s : ByteArray) : s.toList = s.data.toList := Lib.toList_data s

theorem implParse_ok (s : ByteArray) (v : Int) (w : World) (hs : s.size ≤ 1048576) (h : Lib.atoiAll s.data.toList = .ok v) (htab : Lib.TabIs Tryd.prog w "internal/strconv.uint64pow10" .u64 Lib.pow10Tab) :
    Calls Tryd.prog 13 #[.string s] w fun e w' => e = .returned (parseV s.data.toList) ∧ Below w.heap.size w w' := by
  have hb := Lib.atoiAll_bounds h
  have ha := Lib.hid (Tryd.strconv_Atoi_ok s (by omega) v h w)
  have ht := Lib.tabBelow_of_tabIs htab
  have hbw : ∀ w1, (w1 = w ∨ ∃ t, w1 = Lib.bytesWorld w 5 t) → Below w.heap.size w w1 := by
    rintro w1 (rfl | ⟨t, rfl⟩)
    · exact Below.refl _ _
    · exact Lib.bytesWorld_below _ _ _
  have Hbw := Lib.hid hbw; clear hbw
  by_cases hv : -999999 ≤ v ∧ v ≤ 999999
  · have hf := Lib.hid (fun w1 (hb : Below w.heap.size w w1) => implFormat_yes v w1 hv.1 hv.2 (ht w1 hb))
    by_cases hit : Lib.itoa v = s.data.toList
    · have hp : parseR s.data.toList = some v := by rw [← hit]; exact parseR_itoa hv.1 hv.2
      have Hp := Lib.hid hp
      have e1 : (!Lib.itoa v == s.toList) = false := by rw [toList_data, hit]; simp
      clear htab ht h hit hp
      go_enter Tryd.func13, Tryd.ntmps13
      go_wp2_with fail
      refine ha.out.mono ?_
      rintro e w1 ⟨rfl, hw⟩
      have hb1 := Hbw.out _ hw
      clear hw
      go_wp2_with fail
      refine (hf.out _ hb1).mono ?_
      rintro e w2 ⟨rfl, hb2⟩
      go_wp2_with fail
      go_ret2
      exact ⟨by rw [parseV_some Hp.out]; rfl, hb1.trans (hb2.mono hb1.size)⟩
    · have hp : parseR s.data.toList = none := by
        unfold parseR
        rw [h]
        simp [hit]
      have Hp := Lib.hid hp
      have e1 : (!Lib.itoa v == s.toList) = true := by rw [toList_data]; simp [hit]
      clear htab ht h hit hp
      go_enter Tryd.func13, Tryd.ntmps13
      go_wp2_with fail
      refine ha.out.mono ?_
      rintro e w1 ⟨rfl, hw⟩
      have hb1 := Hbw.out _ hw
      clear hw
      go_wp2_with fail
      refine (hf.out _ hb1).mono ?_
      rintro e w2 ⟨rfl, hb2⟩
      go_wp2_with fail
      go_ret2
      exact ⟨by rw [parseV_none Hp.out]; rfl, hb1.trans (hb2.mono hb1.size)⟩
  · have hp : parseR s.data.toList = none := by
      unfold parseR
      rw [h]
      have : ¬ (-999999 ≤ v ∧ v ≤ 999999 ∧ Lib.itoa v = s.data.toList) := fun ⟨a, b, _⟩ => hv ⟨a, b⟩
      simp only [if_neg this]
    have Hp := Lib.hid hp
    have hf := Lib.hid (fun w1 => implFormat_no v w1 (by omega))
    clear htab ht h hp hv
    go_enter Tryd.func13, Tryd.ntmps13
    go_wp2_with fail
    refine ha.out.mono ?_
    rintro e w1 ⟨rfl, hw⟩
    have hb1 := Hbw.out _ hw
    clear hw
    go_wp2_with fail
    refine (hf.out _).mono ?_
    rintro e w2 ⟨rfl, rfl⟩
    go_wp2_with fail
    go_ret2
    exact ⟨by rw [parseV_none Hp.out]; rfl, hb1⟩

/-- The text is no number, or too great a one: the library's error is not nil. -/
theorem implParse_err (s : ByteArray) (w : World) (hp : parseR s.data.toList = none)
    (ha : ∃ n : Int, Calls Tryd.prog 28 #[.string s] w fun e w' => ∃ N, e = .returned (.tuple #[.int .i64 n, .iface 65 (.pointer (some ⟨N, 0, none⟩))]) ∧ Below w.heap.size w w') :
    Calls Tryd.prog 13 #[.string s] w fun e w' => e = .returned (parseV s.data.toList) ∧ Below w.heap.size w w' := by
  obtain ⟨n, hn⟩ := ha
  have Ha := Lib.hid hn; clear hn
  have Hp := Lib.hid hp; clear hp
  go_enter Tryd.func13, Tryd.ntmps13
  go_wp2_with fail
  refine Ha.out.mono ?_
  rintro e w1 ⟨N, rfl, hb1⟩
  go_wp2_with fail
  go_ret2
  exact ⟨by rw [parseV_none Hp.out]; rfl, hb1⟩

/-- The project's reader, at every text up to a bound. -/
theorem implParse_any (s : ByteArray) (w : World) (hs : s.size ≤ 1048576) (htab : Lib.TabIs Tryd.prog w "internal/strconv.uint64pow10" .u64 Lib.pow10Tab)
    (tp1 : TypeId) (p1 : Value) (hv1 : w.var? Tryd.prog "strconv.ErrSyntax" = some #[.iface tp1 p1]) (tp2 : TypeId) (p2 : Value) (hv2 : w.var? Tryd.prog "strconv.ErrRange" = some #[.iface tp2 p2]) :
    Calls Tryd.prog 13 #[.string s] w fun e w' => e = .returned (parseV s.data.toList) ∧ Below w.heap.size w w' := by
  rcases h : Lib.atoiAll s.data.toList with v | _ | _
  · exact implParse_ok s v w hs h htab
  · refine implParse_err s w (by unfold parseR; rw [h]) ⟨0, ?_⟩
    exact (Any.strconv_Atoi_syntax_var Tryd.laysC172 s (by omega) h tp1 p1 w hv1).mono fun e w' ⟨N, he, _, _, hb⟩ => ⟨N, he, hb⟩
  · refine implParse_err s w (by unfold parseR; rw [h]) ⟨Lib.atoiSat s.data.toList, ?_⟩
    exact (Tryd.strconv_Atoi_range_var s (by omega) h tp2 p2 w hv2).mono fun e w' ⟨N, he, _, _, hb⟩ => ⟨N, he, hb⟩

end ParseW
end Go.Proofs.YthmeagmabidniaaDoor
