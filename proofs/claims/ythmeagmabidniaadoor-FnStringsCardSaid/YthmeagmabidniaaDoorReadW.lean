/-
  The contract of the model's reader of a number's decimal text, for every text up to a bound.
-/
import Derived.Test.YthmeagmabidniaaDoorRows
import Derived.Test.YthmeagmabidniaaDoorParseW
import Derived.Test.YthmeagmabidniaaDoorStrs
import Derived.Lib.IndexBytes
namespace Go.Proofs.YthmeagmabidniaaDoor
open Go.RowKit

namespace ReadNumW
open NumW FormatW Parse ParseW

theorem rd_take (t : ByteArray) (k : Nat) (h : k < t.size) (hd : AllDig (t.data.toList.take k)) (h1 : 48 ≤ (t[k]).toNat) (h2 : (t[k]).toNat ≤ 57) :
    AllDig (t.data.toList.take (k + 1)) ∧ ((rdFrom 0 (t.data.toList.take (k + 1)) : Nat) : Int) = 10 * ((rdFrom 0 (t.data.toList.take k) : Nat) : Int) + (((t[k]).toNat : Int) - 48) := by
  rw [Strs.take_snoc t k h, rdFrom_snoc]
  refine ⟨fun c hc => ?_, by omega⟩
  rcases List.mem_append.1 hc with hc | hc
  · exact hd c hc
  · rw [List.mem_singleton] at hc
    subst hc
    exact ⟨h1, h2⟩
theorem mem_at (t : ByteArray) (k : Nat) (h : k < t.size) : t[k] ∈ t.data.toList := by
  show t.data[k] ∈ t.data.toList
  exact Array.mem_toList_iff.2 (Array.getElem_mem _)
theorem rd_le (t : List UInt8) (k : Nat) (hd : AllDig (t.take k)) (hl : t.length ≤ 6) : rdFrom 0 (t.take k) ≤ 999999 :=
  rd_small hd (by rw [List.length_take]; omega)

/-- The text has no sign. -/
theorem read_plain_walk (s : ByteArray) (w : World) (hs : s.size ≤ 1048576) (hp : Parted s.data.toList s.data.toList false)
    (hsign : (1 < s.size ∧ ∃ h : 0 < s.size, ¬ (s[0]).toNat = 45) ∨ s.size ≤ 1) :
    Calls Tryd.prog 29 #[.string s] w fun e w' => e = .returned (parseV s.data.toList) ∧ ∃ q, w' = w.drewN q := by
  have hlen : s.data.toList.length = s.size := by simp
  by_cases h16 : 1 ≤ s.size ∧ s.size ≤ 6
  · have hi := Lib.hid (fun w => l1In_yes (s.size : Int) 1 6 w (by omega) (by omega))
    have Hlen := Lib.hid hlen; clear hlen
    have Hp := Lib.hid hp; clear hp
    rcases hsign with ⟨h1, h0, hne⟩ | h1
    all_goals
      go_enter Tryd.func29, Tryd.ntmps29
      go_wp2_with fail
      refine (hi.out _).mono ?_
      rintro e w1 ⟨rfl, rfl⟩
      go_wp2_with fail
      go_loop [5, 6] (fun n i => ∃ k : Nat, k ≤ s.size ∧ i = .int .i64 k ∧ n = .int .i64 ((rdFrom 0 (s.data.toList.take k) : Nat) : Int) ∧ Hid (AllDig (s.data.toList.take k))) (fun _ i => s.size - (intOf i).toNat)
      case atStart => exact ⟨0, Nat.zero_le _, rfl, rfl, fun c hc => by simp at hc⟩
      case round =>
        obtain ⟨k, hk, rfl, rfl, hd⟩ := hrel
        have hrd := rd_le s.data.toList k hd.out (by rw [Hlen.out]; exact h16.2)
        by_cases hlt : k < s.size
        · by_cases hlow : (s[k]).toNat < 48
          · have hn := Lib.hid (Hp.out.none_dig (mem_at s k hlt) (Or.inl hlow))
            have e1 : decide (((s[k]).toNat : Int) < 48) = true := decide_eq_true (by omega)
            go_wp2_with fail
            go_ret2
            exact ⟨by rw [parseV_none hn.out]; rfl, 0, rfl⟩
          · have e1 : decide (((s[k]).toNat : Int) < 48) = false := decide_eq_false (by omega)
            by_cases hhigh : 57 < (s[k]).toNat
            · have hn := Lib.hid (Hp.out.none_dig (mem_at s k hlt) (Or.inr hhigh))
              have e2 : decide (57 < ((s[k]).toNat : Int)) = true := decide_eq_true (by omega)
              go_wp2_with fail
              go_ret2
              exact ⟨by rw [parseV_none hn.out]; rfl, 0, rfl⟩
            · have e2 : decide (57 < ((s[k]).toNat : Int)) = false := decide_eq_false (by omega)
              have hst := rd_take s k hlt hd.out (by omega) (by omega)
              have HS := Lib.hid hst; clear hst
              have hlow' : 48 ≤ (s[k]).toNat := by omega
              have hhigh' : (s[k]).toNat ≤ 57 := by omega
              go_wp2_with fail
              go_round
              case rel => exact ⟨k + 1, by omega, by go_num, by rw [HS.out.2], HS.out.1⟩
              case measure => simp [intOf]; omega
        · have hks : k = s.size := by omega
          subst hks
          have hall : s.data.toList.take s.size = s.data.toList := List.take_of_length_le (by rw [Hlen.out]; exact Nat.le_refl _)
          rw [hall] at hd hrd
          have hnum := Lib.hid (fun w => l1Num_any ((rdFrom 0 s.data.toList : Nat) : Int) w (by omega) (by omega))
          rw [hall]
          clear hall
          by_cases hit : Lib.itoa ((rdFrom 0 s.data.toList : Nat) : Int) = s.data.toList
          · have hv := Lib.hid (Hp.out.some_plain hd.out (by rw [Hlen.out]; exact h16.2) hit)
            have e3 : (!Lib.itoa ((rdFrom 0 s.data.toList : Nat) : Int) == s.toList) = false := by rw [toList_data, hit]; simp
            clear hit
            go_wp2_with fail
            refine (hnum.out _).mono ?_
            rintro e w2 ⟨rfl, q, rfl⟩
            go_wp2_with fail
            go_ret2
            exact ⟨by rw [parseV_some hv.out]; rfl, _, rfl⟩
          · have hv := Lib.hid (Hp.out.none_plain hit)
            have e3 : (!Lib.itoa ((rdFrom 0 s.data.toList : Nat) : Int) == s.toList) = true := by rw [toList_data]; simp [hit]
            clear hit
            go_wp2_with fail
            refine (hnum.out _).mono ?_
            rintro e w2 ⟨rfl, q, rfl⟩
            go_wp2_with fail
            go_ret2
            exact ⟨by rw [parseV_none hv.out]; rfl, _, rfl⟩
  · have hn := Lib.hid (hp.none_len (by omega))
    have hi := Lib.hid (fun w => l1In_no (s.size : Int) 1 6 w (by omega))
    clear hp hlen
    rcases hsign with ⟨h1, h0, hne⟩ | h1
    all_goals
      go_enter Tryd.func29, Tryd.ntmps29
      go_wp2_with fail
      refine (hi.out _).mono ?_
      rintro e w1 ⟨rfl, rfl⟩
      go_wp2_with fail
      go_ret2
      exact ⟨by rw [parseV_none hn.out]; rfl, 0, rfl⟩

/-- The text has a sign; t is what stands behind it. -/
theorem read_neg_walk (s t : ByteArray) (w : World) (hs : s.size ≤ 1048576) (ht : t = s.extract 1 s.size) (hp : Parted s.data.toList t.data.toList true)
    (h1 : 1 < s.size) (h0 : 0 < s.size) (hne : (s[0]).toNat = 45) :
    Calls Tryd.prog 29 #[.string s] w fun e w' => e = .returned (parseV s.data.toList) ∧ ∃ q, w' = w.drewN q := by
  have hsz : t.size = s.size - 1 := by rw [ht]; simp
  have hlen : t.data.toList.length = t.size := by simp
  have hz1 : t.size + 1 ≤ s.size := by omega
  have hz2 : s.size ≤ t.size + 1 := by omega
  have Ht := Lib.hid ht; clear ht hsz
  by_cases h16 : 1 ≤ t.size ∧ t.size ≤ 6
  · have hi := Lib.hid (fun w => l1In_yes ((s.size - 1 : Nat) : Int) 1 6 w (by omega) (by omega))
    have Hlen := Lib.hid hlen; clear hlen
    have Hp := Lib.hid hp; clear hp
    go_enter Tryd.func29, Tryd.ntmps29
    go_wp2_with fail
    refine (hi.out _).mono ?_
    rintro e w1 ⟨rfl, rfl⟩
    rw [← Ht.out]
    clear Ht
    go_wp2_with fail
    go_loop [5, 6] (fun n i => ∃ k : Nat, k ≤ t.size ∧ i = .int .i64 k ∧ n = .int .i64 ((rdFrom 0 (t.data.toList.take k) : Nat) : Int) ∧ Hid (AllDig (t.data.toList.take k))) (fun _ i => t.size - (intOf i).toNat)
    case atStart => exact ⟨0, Nat.zero_le _, rfl, rfl, fun c hc => by simp at hc⟩
    case round =>
      obtain ⟨k, hk, rfl, rfl, hd⟩ := hrel
      have hrd := rd_le t.data.toList k hd.out (by rw [Hlen.out]; exact h16.2)
      by_cases hlt : k < t.size
      · by_cases hlow : (t[k]).toNat < 48
        · have hn := Lib.hid (Hp.out.none_dig (mem_at t k hlt) (Or.inl hlow))
          have e1 : decide (((t[k]).toNat : Int) < 48) = true := decide_eq_true (by omega)
          go_wp2_with fail
          go_ret2
          exact ⟨by rw [parseV_none hn.out]; rfl, 0, rfl⟩
        · have e1 : decide (((t[k]).toNat : Int) < 48) = false := decide_eq_false (by omega)
          by_cases hhigh : 57 < (t[k]).toNat
          · have hn := Lib.hid (Hp.out.none_dig (mem_at t k hlt) (Or.inr hhigh))
            have e2 : decide (57 < ((t[k]).toNat : Int)) = true := decide_eq_true (by omega)
            go_wp2_with fail
            go_ret2
            exact ⟨by rw [parseV_none hn.out]; rfl, 0, rfl⟩
          · have e2 : decide (57 < ((t[k]).toNat : Int)) = false := decide_eq_false (by omega)
            have hst := rd_take t k hlt hd.out (by omega) (by omega)
            have HS := Lib.hid hst; clear hst
            have hlow' : 48 ≤ (t[k]).toNat := by omega
            have hhigh' : (t[k]).toNat ≤ 57 := by omega
            go_wp2_with fail
            go_round
            case rel => exact ⟨k + 1, by omega, by go_num, by rw [HS.out.2], HS.out.1⟩
            case measure => simp [intOf]; omega
      · have hks : k = t.size := by omega
        subst hks
        have hall : t.data.toList.take t.size = t.data.toList := List.take_of_length_le (by rw [Hlen.out]; exact Nat.le_refl _)
        rw [hall] at hd hrd
        have hnum := Lib.hid (fun w => l1Num_any (-((rdFrom 0 t.data.toList : Nat) : Int)) w (by omega) (by omega))
        rw [hall]
        clear hall
        by_cases hit : Lib.itoa (-((rdFrom 0 t.data.toList : Nat) : Int)) = s.data.toList
        · have hv := Lib.hid (Hp.out.some_neg hd.out (by rw [Hlen.out]; exact h16.2) hit)
          have e3 : (!Lib.itoa (-((rdFrom 0 t.data.toList : Nat) : Int)) == s.toList) = false := by rw [toList_data, hit]; simp
          clear hit
          go_wp2_with fail
          refine (hnum.out _).mono ?_
          rintro e w2 ⟨rfl, q, rfl⟩
          go_wp2_with fail
          go_ret2
          exact ⟨by rw [parseV_some hv.out]; rfl, _, rfl⟩
        · have hv := Lib.hid (Hp.out.none_neg hit)
          have e3 : (!Lib.itoa (-((rdFrom 0 t.data.toList : Nat) : Int)) == s.toList) = true := by rw [toList_data]; simp [hit]
          clear hit
          go_wp2_with fail
          refine (hnum.out _).mono ?_
          rintro e w2 ⟨rfl, q, rfl⟩
          go_wp2_with fail
          go_ret2
          exact ⟨by rw [parseV_none hv.out]; rfl, _, rfl⟩
  · have hn := Lib.hid (hp.none_len (by omega))
    have hi := Lib.hid (fun w => l1In_no ((s.size - 1 : Nat) : Int) 1 6 w (by omega))
    clear hp hlen
    go_enter Tryd.func29, Tryd.ntmps29
    go_wp2_with fail
    refine (hi.out _).mono ?_
    rintro e w1 ⟨rfl, rfl⟩
    go_wp2_with fail
    go_ret2
    exact ⟨by rw [parseV_none hn.out]; rfl, 0, rfl⟩

theorem l1Read_any (s : ByteArray) (w : World) (hs : s.size ≤ 1048576) :
    Calls Tryd.prog 29 #[.string s] w fun e w' => e = .returned (parseV s.data.toList) ∧ ∃ q, w' = w.drewN q := by
  by_cases h1 : 1 < s.size
  · have h0 : 0 < s.size := by omega
    have hcons : s.data.toList = s[0] :: (s.extract 1 s.size).data.toList := by
      rw [Lib.extract_to_end]
      have : s.data.toList = s.data.toList.drop 0 := rfl
      rw [this, List.drop_eq_getElem_cons (by simpa using h0)]
      rfl
    by_cases hne : (s[0]).toNat = 45
    · have e45 : s[0] = 45 := UInt8.toNat_inj.1 hne
      refine read_neg_walk s _ w hs rfl ?_ h1 h0 hne
      have := parted_neg (s.extract 1 s.size).data.toList
      rwa [hcons, e45]
    · refine read_plain_walk s w hs (parted_plain ?_) (Or.inl ⟨h1, h0, hne⟩)
      rintro ⟨_, h⟩
      rw [hcons] at h
      simp only [List.head?_cons, Option.some.injEq] at h
      exact hne (by rw [h]; rfl)
  · refine read_plain_walk s w hs (parted_plain ?_) (Or.inr (by omega))
    rintro ⟨h, _⟩
    simp at h
    omega

theorem specParse_any (s : ByteArray) (w : World) (hs : s.size ≤ 1048576) :
    Calls Tryd.prog 14 #[.string s] w fun e w' => e = .returned (parseV s.data.toList) ∧ ∃ q, w' = w.drewN q := by
  have hr := Lib.hid (l1Read_any s w hs)
  unfold parseV at hr ⊢
  go_enter Tryd.func14, Tryd.ntmps14
  go_wp2_with fail
  refine hr.out.mono ?_
  rintro e w1 ⟨rfl, q, rfl⟩
  go_wp2_with fail
  go_ret2
  exact ⟨rfl, _, rfl⟩

end ReadNumW
end Go.Proofs.YthmeagmabidniaaDoor
