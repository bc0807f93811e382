/-
  Plain facts, without any program: decimal texts and the numbers that they write.
-/
import Derived.Lib.AtoiAll
import Derived.Lib.ItoaNum
namespace Go.Proofs.YthmeagmabidniaaDoor
namespace Parse

/-- The number that digits write behind a number. -/
def rdFrom (acc : Nat) (l : List UInt8) : Nat := l.foldl (fun a c => a * 10 + (c.toNat - 48)) acc
def IsDig (c : UInt8) : Prop := 48 ≤ c.toNat ∧ c.toNat ≤ 57
def AllDig (l : List UInt8) : Prop := ∀ c ∈ l, IsDig c

theorem rdFrom_cons (acc : Nat) (c : UInt8) (r : List UInt8) : rdFrom acc (c :: r) = rdFrom (acc * 10 + (c.toNat - 48)) r := by unfold rdFrom; rw [List.foldl_cons]
theorem rdFrom_snoc (acc : Nat) (l : List UInt8) (c : UInt8) : rdFrom acc (l ++ [c]) = rdFrom acc l * 10 + (c.toNat - 48) := by
  unfold rdFrom; rw [List.foldl_append]; rfl
theorem le_rdFrom : ∀ (l : List UInt8) (acc : Nat), acc ≤ rdFrom acc l
  | [], _ => Nat.le_refl _
  | c :: r, acc => by
    rw [rdFrom_cons]
    have := le_rdFrom r (acc * 10 + (c.toNat - 48))
    omega
theorem rd_lt : ∀ (l : List UInt8) (acc k : Nat), AllDig l → acc < 10 ^ k → rdFrom acc l < 10 ^ (k + l.length)
  | [], acc, k, _, h => h
  | c :: r, acc, k, hd, h => by
    rw [rdFrom_cons]
    have hc := hd c (List.mem_cons_self)
    have hp : 10 ^ (k + 1) = 10 ^ k * 10 := Nat.pow_succ 10 k
    have := rd_lt r (acc * 10 + (c.toNat - 48)) (k + 1) (fun x hx => hd x (List.mem_cons_of_mem _ hx)) (by unfold IsDig at hc; omega)
    rw [List.length_cons, show k + (r.length + 1) = k + 1 + r.length by omega]
    exact this
theorem rd_small {l : List UInt8} (hd : AllDig l) (hl : l.length ≤ 6) : rdFrom 0 l ≤ 999999 := by
  have h := rd_lt l 0 0 hd (by decide)
  have hp : 10 ^ (0 + l.length) ≤ 10 ^ 6 := Nat.pow_le_pow_right (by decide) (by omega)
  have h6 : 10 ^ 6 = 1000000 := by decide
  omega

theorem parse_digits : ∀ (l : List UInt8) (acc : Nat), AllDig l → rdFrom acc l < 1000000000000000000 → Lib.parseUint10 acc l = .ok (rdFrom acc l)
  | [], _, _, _ => rfl
  | c :: r, acc, hd, h => by
    have hc : 48 ≤ c.toNat ∧ c.toNat ≤ 57 := hd c (List.mem_cons_self)
    rw [rdFrom_cons] at h ⊢
    have hle := le_rdFrom r (acc * 10 + (c.toNat - 48))
    rw [Lib.parseUint10, if_pos hc, if_neg (by omega), if_neg (by omega)]
    exact parse_digits r _ (fun x hx => hd x (List.mem_cons_of_mem _ hx)) h

theorem ofNat_dig {n : Nat} (h : n < 10) : (UInt8.ofNat (48 + n)).toNat = 48 + n := by
  rw [UInt8.toNat_ofNat']; omega
theorem dec_facts (m : Nat) : AllDig (Lib.decDigits m) ∧ rdFrom 0 (Lib.decDigits m) = m ∧ Lib.decDigits m ≠ [] := by
  induction m using Nat.strongRecOn with
  | _ m ih =>
    by_cases h : m < 10
    · have e := ofNat_dig h
      rw [Lib.decDigits, dif_pos h]
      refine ⟨fun c hc => ?_, ?_, by simp⟩
      · rw [List.mem_singleton] at hc; subst hc; unfold IsDig; omega
      · unfold rdFrom; simp only [List.foldl_cons, List.foldl_nil]; omega
    · obtain ⟨i1, i2, _⟩ := ih (m / 10) (by omega)
      have e := ofNat_dig (n := m % 10) (by omega)
      rw [Lib.decDigits, dif_neg h]
      refine ⟨fun c hc => ?_, ?_, by simp⟩
      · rcases List.mem_append.1 hc with hc | hc
        · exact i1 c hc
        · rw [List.mem_singleton] at hc; subst hc; unfold IsDig; omega
      · rw [rdFrom_snoc, i2]; omega

theorem parseMag_dec {m : Nat} (h : m < 1000000000000000000) : Lib.parseMag (Lib.decDigits m) = .ok m := by
  obtain ⟨h1, h2, h3⟩ := dec_facts m
  unfold Lib.parseMag
  rw [if_neg h3, parse_digits _ 0 h1 (by omega), h2]

/-- What writes a number reads it back. -/
theorem atoi_itoa {n : Int} (h0 : -999999999999 ≤ n) (h1 : n ≤ 999999999999) : Lib.atoiAll (Lib.itoa n) = .ok n := by
  unfold Lib.itoa
  by_cases hn : n < 0
  · rw [if_pos hn]
    have h45 : (45 : UInt8).toNat = 45 := rfl
    have hm := parseMag_dec (m := n.natAbs) (by omega)
    simp only [Lib.atoiAll, h45, or_true, if_true, hm, not_true_eq_false, false_and, true_and, if_false]
    rw [if_neg (by omega)]
    congr 1
    omega
  · rw [if_neg hn]
    obtain ⟨d1, _, d3⟩ := dec_facts n.toNat
    have hm := parseMag_dec (m := n.toNat) (by omega)
    generalize Lib.decDigits n.toNat = l at d1 d3 hm
    cases l with
    | nil => exact absurd rfl d3
    | cons c r =>
      have hc : 48 ≤ c.toNat ∧ c.toNat ≤ 57 := d1 c List.mem_cons_self
      have n43 : ¬ c.toNat = 43 := by omega
      have n45 : ¬ c.toNat = 45 := by omega
      simp only [Lib.atoiAll]
      rw [if_neg (by omega), hm]
      simp only [n45, not_false_eq_true, true_and, false_and, if_false]
      rw [if_neg (by omega)]
      congr 1
      omega

/-- The number within bounds that a text writes, if there is one. -/
def parseR (l : List UInt8) : Option Int :=
  match Lib.atoiAll l with
  | .ok v => if -999999 ≤ v ∧ v ≤ 999999 ∧ Lib.itoa v = l then some v else none
  | _ => none
theorem parseR_itoa {n : Int} (h0 : -999999 ≤ n) (h1 : n ≤ 999999) : parseR (Lib.itoa n) = some n := by
  unfold parseR
  rw [atoi_itoa (by omega) (by omega)]
  simp [h0, h1]
theorem parseR_some {l : List UInt8} {v : Int} (h : parseR l = some v) : -999999 ≤ v ∧ v ≤ 999999 ∧ Lib.itoa v = l := by
  unfold parseR at h
  split at h
  · split at h
    · rename_i hc
      injection h with h
      subst h
      exact hc
    · cases h
  · cases h
theorem parseR_none {l : List UInt8} (h : ∀ n : Int, -999999 ≤ n → n ≤ 999999 → Lib.itoa n ≠ l) : parseR l = none := by
  cases e : parseR l with
  | none => rfl
  | some v =>
    obtain ⟨a, b, c⟩ := parseR_some e
    exact absurd c (h v a b)

theorem dec_len_le : ∀ (k m : Nat), m < 10 ^ (k + 1) → (Lib.decDigits m).length ≤ k + 1
  | 0, m, h => by
    have h1 : 10 ^ (0 + 1) = 10 := by decide
    rw [Lib.decDigits, dif_pos (by omega)]
    exact Nat.le_refl _
  | k + 1, m, h => by
    have hp : 10 ^ (k + 1 + 1) = 10 ^ (k + 1) * 10 := Nat.pow_succ 10 (k + 1)
    have := dec_len_le k (m / 10) (by omega)
    rw [Lib.decDigits]
    split
    · simp
    · simp only [List.length_append, List.length_cons, List.length_nil]; omega
theorem dec_len6 {m : Nat} (h : m ≤ 999999) : (Lib.decDigits m).length ≤ 6 :=
  dec_len_le 5 m (by have h6 : 10 ^ (5 + 1) = 1000000 := by decide
                     omega)
theorem dec_len1 (m : Nat) : 1 ≤ (Lib.decDigits m).length := by
  have := (dec_facts m).2.2
  cases h : Lib.decDigits m with
  | nil => exact absurd h this
  | cons c r => simp

/-- What a text without a sign writes. -/
theorem read_plain {l : List UInt8} (hs : ¬ (1 < l.length ∧ l.head? = some 45)) {n : Int} (h0 : -999999 ≤ n) (h1 : n ≤ 999999) (h : Lib.itoa n = l) :
    AllDig l ∧ 1 ≤ l.length ∧ l.length ≤ 6 ∧ n = (rdFrom 0 l : Nat) := by
  unfold Lib.itoa at h
  by_cases hn : n < 0
  · rw [if_pos hn] at h
    subst h
    have := dec_len1 n.natAbs
    exact absurd ⟨by simp only [List.length_cons]; omega, rfl⟩ hs
  · rw [if_neg hn] at h
    subst h
    obtain ⟨d1, d2, _⟩ := dec_facts n.toNat
    exact ⟨d1, dec_len1 _, dec_len6 (by omega), by rw [d2]; omega⟩
/-- What a text behind a sign writes. -/
theorem read_neg {l : List UInt8} {n : Int} (h0 : -999999 ≤ n) (h1 : n ≤ 999999) (h : Lib.itoa n = 45 :: l) :
    AllDig l ∧ 1 ≤ l.length ∧ l.length ≤ 6 ∧ n = -((rdFrom 0 l : Nat) : Int) := by
  unfold Lib.itoa at h
  by_cases hn : n < 0
  · rw [if_pos hn] at h
    injection h with _ h
    subst h
    obtain ⟨d1, d2, _⟩ := dec_facts n.natAbs
    exact ⟨d1, dec_len1 _, dec_len6 (by omega), by rw [d2]; omega⟩
  · rw [if_neg hn] at h
    obtain ⟨d1, _, _⟩ := dec_facts n.toNat
    rw [h] at d1
    have := d1 45 List.mem_cons_self
    unfold IsDig at this
    have h45 : (45 : UInt8).toNat = 45 := rfl
    omega

/-- A text that is parted into a sign and digits, and what its digits must be. -/
structure Parted (l t : List UInt8) (neg : Bool) : Prop where
  reads : ∀ n : Int, -999999 ≤ n → n ≤ 999999 → Lib.itoa n = l → AllDig t ∧ 1 ≤ t.length ∧ t.length ≤ 6 ∧ n = if neg then -((rdFrom 0 t : Nat) : Int) else ((rdFrom 0 t : Nat) : Int)
theorem parted_plain {l : List UInt8} (hs : ¬ (1 < l.length ∧ l.head? = some 45)) : Parted l l false :=
  ⟨fun _ h0 h1 h => read_plain hs h0 h1 h⟩
theorem parted_neg (l : List UInt8) : Parted (45 :: l) l true :=
  ⟨fun _ h0 h1 h => read_neg h0 h1 h⟩
theorem Parted.none_len {l t : List UInt8} {neg : Bool} (h : Parted l t neg) (hl : t.length < 1 ∨ 6 < t.length) : parseR l = none :=
  parseR_none fun n a b e => by have := h.reads n a b e; omega
theorem Parted.none_dig {l t : List UInt8} {neg : Bool} (h : Parted l t neg) {c : UInt8} (hc : c ∈ t) (hd : c.toNat < 48 ∨ 57 < c.toNat) : parseR l = none :=
  parseR_none fun n a b e => by have := (h.reads n a b e).1 c hc; unfold IsDig at this; omega
theorem Parted.some_plain {l t : List UInt8} (_ : Parted l t false) (hd : AllDig t) (hl : t.length ≤ 6) (e : Lib.itoa ((rdFrom 0 t : Nat) : Int) = l) : parseR l = some ((rdFrom 0 t : Nat) : Int) := by
  have := rd_small hd hl
  rw [← e]
  exact parseR_itoa (by omega) (by omega)
theorem Parted.some_neg {l t : List UInt8} (_ : Parted l t true) (hd : AllDig t) (hl : t.length ≤ 6) (e : Lib.itoa (-((rdFrom 0 t : Nat) : Int)) = l) : parseR l = some (-((rdFrom 0 t : Nat) : Int)) := by
  have := rd_small hd hl
  rw [← e]
  exact parseR_itoa (by omega) (by omega)
theorem Parted.none_plain {l t : List UInt8} (h : Parted l t false) (e : Lib.itoa ((rdFrom 0 t : Nat) : Int) ≠ l) : parseR l = none :=
  parseR_none fun n a b e' => by
    have := (h.reads n a b e').2.2.2
    simp only [Bool.false_eq_true, if_false] at this
    subst this
    exact e e'
theorem Parted.none_neg {l t : List UInt8} (h : Parted l t true) (e : Lib.itoa (-((rdFrom 0 t : Nat) : Int)) ≠ l) : parseR l = none :=
  parseR_none fun n a b e' => by
    have := (h.reads n a b e').2.2.2
    simp only [if_true] at this
    subst this
    exact e e'

end Parse
end Go.Proofs.YthmeagmabidniaaDoor
