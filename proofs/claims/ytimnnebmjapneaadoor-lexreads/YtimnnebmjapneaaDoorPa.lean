/- Numbers as texts, and back: what Lex reads of numbers that are shown. No walk stands in this text. -/
import Derived.Test.YtimnnebmjapneaaDoorLn
import Derived.Lib.ParseIntBTie
namespace Go.Proofs.YtimnnebmjapneaaDoor
open Go.RowKit Go.Lib Go.Sort
set_option linter.unusedVariables false
set_option linter.unusedSimpArgs false

theorem u8_of {n : Nat} (h : n < 256) : (UInt8.ofNat n).toNat = n := by simp; omega
/-- Digits are read as the number that they write. -/
theorem parse_app : ∀ (l m : List UInt8) (acc u : Nat), parseUint10 acc l = .ok u → parseUint10 acc (l ++ m) = parseUint10 u m
  | [], m, acc, u, h => by simp only [parseUint10] at h; injection h with h; subst h; rfl
  | c :: r, m, acc, u, h => by
    simp only [parseUint10, List.cons_append] at h ⊢
    split at h
    · rename_i h1
      rw [if_pos h1]
      split at h
      · cases h
      · rename_i h2
        rw [if_neg h2]
        split at h
        · cases h
        · rename_i h3
          rw [if_neg h3]
          exact parse_app r m _ u h
    · cases h
theorem parse_dec (u : Nat) : u < 18446744073709551616 → parseUint10 0 (decDigits u) = .ok u := by
  induction u using Nat.strongRecOn with
  | _ u ih =>
    intro h
    unfold decDigits
    by_cases h10 : u < 10
    · rw [dif_pos h10]
      have e := u8_of (n := 48 + u) (by omega)
      simp only [parseUint10, e]
      rw [if_pos (by omega), if_neg (by omega), if_neg (by omega)]
      congr 1
      omega
    · rw [dif_neg h10, parse_app _ _ _ _ (ih (u / 10) (by omega) (by omega))]
      have e := u8_of (n := 48 + u % 10) (by omega)
      simp only [parseUint10, e]
      rw [if_pos (by omega), if_neg (by omega), if_neg (by omega)]
      congr 1
      omega
/-- A digit. -/
def isDig (c : UInt8) : Prop := 48 ≤ c.toNat ∧ c.toNat ≤ 57
theorem dec_digs (u : Nat) : (∀ c ∈ decDigits u, isDig c) ∧ decDigits u ≠ [] := by
  induction u using Nat.strongRecOn with
  | _ u ih =>
    unfold decDigits
    by_cases h10 : u < 10
    · rw [dif_pos h10]
      refine ⟨fun c hc => ?_, by simp⟩
      simp only [List.mem_cons, List.not_mem_nil, or_false] at hc
      subst hc
      have e := u8_of (n := 48 + u) (by omega)
      unfold isDig
      omega
    · rw [dif_neg h10]
      have i := ih (u / 10) (by omega)
      refine ⟨fun c hc => ?_, by simp⟩
      rcases List.mem_append.1 hc with hc | hc
      · exact i.1 c hc
      · simp only [List.mem_cons, List.not_mem_nil, or_false] at hc
        subst hc
        have e := u8_of (n := 48 + u % 10) (by omega)
        unfold isDig
        omega
theorem dec_cons (u : Nat) : ∃ c r, decDigits u = c :: r ∧ isDig c ∧ ∀ x ∈ r, isDig x := by
  obtain ⟨h1, h2⟩ := dec_digs u
  cases h : decDigits u with
  | nil => exact absurd h h2
  | cons c r => rw [h] at h1; exact ⟨c, r, rfl, h1 c (by simp), fun x hx => h1 x (by simp [hx])⟩
/-- What a number's text is made of. -/
theorem itoa_form (a : Int) : (∃ c r, itoa a = c :: r ∧ isDig c ∧ ∀ x ∈ r, isDig x) ∨ ∃ c r, itoa a = 45 :: c :: r ∧ isDig c ∧ ∀ x ∈ r, isDig x := by
  unfold itoa
  split
  · obtain ⟨c, r, h, h1, h2⟩ := dec_cons a.natAbs
    exact .inr ⟨c, r, by rw [h], h1, h2⟩
  · obtain ⟨c, r, h, h1, h2⟩ := dec_cons a.toNat
    exact .inl ⟨c, r, h, h1, h2⟩
theorem num_itoa (a : Int) (h0 : -9223372036854775808 ≤ a) (h1 : a ≤ 9223372036854775807) : parseIntB 64 (itoa a) = .ok a := by
  rw [parseIntB_64]
  unfold itoa
  by_cases hneg : a < 0
  · rw [if_pos hneg]
    unfold atoiAll
    simp only [show (45 : UInt8).toNat = 45 from rfl]
    simp only [or_true, if_true]
    have hm : parseMag (decDigits a.natAbs) = .ok a.natAbs := by
      unfold parseMag
      rw [if_neg (dec_digs _).2]
      exact parse_dec _ (by omega)
    rw [hm]
    simp only [not_true, false_and, if_false, true_and]
    rw [if_neg (by omega)]
    congr 1
    omega
  · rw [if_neg hneg]
    obtain ⟨c, r, hc, hd, _⟩ := dec_cons a.toNat
    have hm : parseMag (decDigits a.toNat) = .ok a.toNat := by
      unfold parseMag
      rw [if_neg (dec_digs _).2]
      exact parse_dec _ (by omega)
    rw [hc] at hm ⊢
    unfold isDig at hd
    unfold atoiAll
    simp only
    rw [if_neg (by omega), hm]
    simp only
    rw [if_neg (by omega), if_neg (by omega), if_neg (by omega)]
    congr 1
    omega
theorem numOf_itoa (a : Int) (h0 : -9223372036854775808 ≤ a) (h1 : a ≤ 9223372036854775807) : numOf (itoa a) = some a := by
  unfold numOf
  rw [num_itoa a h0 h1]
  simp
theorem itoa_inj (a b : Int) (ha0 : -9223372036854775808 ≤ a) (ha1 : a ≤ 9223372036854775807) (hb0 : -9223372036854775808 ≤ b) (hb1 : b ≤ 9223372036854775807) : itoa a = itoa b ↔ a = b := by
  constructor
  · intro h
    have x := num_itoa a ha0 ha1
    rw [h, num_itoa b hb0 hb1] at x
    injection x with x
    exact x.symm
  · intro h; rw [h]
theorem begNum_itoa (a : Int) : begNum (itoa a) = true := by
  rcases itoa_form a with ⟨c, r, h, hd, _⟩ | ⟨c, r, h, hd, _⟩
  · rw [h]
    unfold isDig at hd
    have hn : ¬ (45 : UInt8) = c := by rintro rfl; simp at hd
    simp [begNum, Lib.trimPrefix, Lib.hasPrefix, List.isPrefixOf, hn]
    omega
  · rw [h]
    unfold isDig at hd
    simp [begNum, Lib.trimPrefix, Lib.hasPrefix, List.isPrefixOf]
    omega
end Go.Proofs.YtimnnebmjapneaaDoor
