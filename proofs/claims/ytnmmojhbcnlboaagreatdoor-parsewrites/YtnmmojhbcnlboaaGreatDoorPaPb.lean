/- Numbers as texts, and back: what Lex reads of numbers that are shown. No walk stands in this text. -/
import Derived.Test.YtnmmojhbcnlboaaGreatDoorLm
import Derived.Lib.ParseIntBTie
namespace Go.Proofs.YtnmmojhbcnlboaaGreatDoor
open Go.RowKit Go.Lib Go.Sort
set_option linter.unusedVariables false
set_option linter.unusedSimpArgs false

theorem u8_of {n : Nat} (h : n < 256) : (UInt8.ofNat n).toNat = n := by simp; omega
/-- Digits are read as the number that they write. -/
theorem parse_app : ∀ (l m : List UInt8) (acc u : Nat), parseUint10 acc l = .ok u → parseUint10 acc (l ++ m) = parseUint10 u m
  | [], m, acc, u, h => by simp only [parseUint10] at h; injection h with h; subst h; rfl
  | c :: r, m, acc, u, h => by
    simp only [parseUint10, List.cons_append] at h ⊢
    split at h
    · rename_i h1
      rw [if_pos h1]
      split at h
      · cases h
      · rename_i h2
        rw [if_neg h2]
        split at h
        · cases h
        · rename_i h3
          rw [if_neg h3]
          exact parse_app r m _ u h
    · cases h
theorem parse_dec (u : Nat) : u < 18446744073709551616 → parseUint10 0 (decDigits u) = .ok u := by
  induction u using Nat.strongRecOn with
  | _ u ih =>
    intro h
    unfold decDigits
    by_cases h10 : u < 10
    · rw [dif_pos h10]
      have e := u8_of (n := 48 + u) (by omega)
      simp only [parseUint10, e]
      rw [if_pos (by omega), if_neg (by omega), if_neg (by omega)]
      congr 1
      omega
    · rw [dif_neg h10, parse_app _ _ _ _ (ih (u / 10) (by omega) (by omega))]
      have e := u8_of (n := 48 + u % 10) (by omega)
      simp only [parseUint10, e]
      rw [if_pos (by omega), if_neg (by omega), if_neg (by omega)]
      congr 1
      omega
/-- A digit. -/
def isDig (c : UInt8) : Prop := 48 ≤ c.toNat ∧ c.toNat ≤ 57
theorem dec_digs (u : Nat) : (∀ c ∈ decDigits u, isDig c) ∧ decDigits u ≠ [] := by
  induction u using Nat.strongRecOn with
  | _ u ih =>
    unfold decDigits
    by_cases h10 : u < 10
    · rw [dif_pos h10]
      refine ⟨fun c hc => ?_, by simp⟩
      simp only [List.mem_cons, List.not_mem_nil, or_false] at hc
      subst hc
      have e := u8_of (n := 48 + u) (by omega)
      unfold isDig
      omega
    · rw [dif_neg h10]
      have i := ih (u / 10) (by omega)
      refine ⟨fun c hc => ?_, by simp⟩
      rcases List.mem_append.1 hc with hc | hc
      · exact i.1 c hc
      · simp only [List.mem_cons, List.not_mem_nil, or_false] at hc
        subst hc
        have e := u8_of (n := 48 + u % 10) (by omega)
        unfold isDig
        omega
theorem dec_cons (u : Nat) : ∃ c r, decDigits u = c :: r ∧ isDig c ∧ ∀ x ∈ r, isDig x := by
  obtain ⟨h1, h2⟩ := dec_digs u
  cases h : decDigits u with
  | nil => exact absurd h h2
  | cons c r => rw [h] at h1; exact ⟨c, r, rfl, h1 c (by simp), fun x hx => h1 x (by simp [hx])⟩
/-- What a number's text is made of. -/
theorem itoa_form (a : Int) : (∃ c r, itoa a = c :: r ∧ isDig c ∧ ∀ x ∈ r, isDig x) ∨ ∃ c r, itoa a = 45 :: c :: r ∧ isDig c ∧ ∀ x ∈ r, isDig x := by
  unfold itoa
  split
  · obtain ⟨c, r, h, h1, h2⟩ := dec_cons a.natAbs
    exact .inr ⟨c, r, by rw [h], h1, h2⟩
  · obtain ⟨c, r, h, h1, h2⟩ := dec_cons a.toNat
    exact .inl ⟨c, r, h, h1, h2⟩
theorem num_itoa (a : Int) (h0 : -9223372036854775808 ≤ a) (h1 : a ≤ 9223372036854775807) : parseIntB 64 (itoa a) = .ok a := by
  rw [parseIntB_64]
  unfold itoa
  by_cases hneg : a < 0
  · rw [if_pos hneg]
    unfold atoiAll
    simp only [show (45 : UInt8).toNat = 45 from rfl]
    simp only [or_true, if_true]
    have hm : parseMag (decDigits a.natAbs) = .ok a.natAbs := by
      unfold parseMag
      rw [if_neg (dec_digs _).2]
      exact parse_dec _ (by omega)
    rw [hm]
    simp only [not_true, false_and, if_false, true_and]
    rw [if_neg (by omega)]
    congr 1
    omega
  · rw [if_neg hneg]
    obtain ⟨c, r, hc, hd, _⟩ := dec_cons a.toNat
    have hm : parseMag (decDigits a.toNat) = .ok a.toNat := by
      unfold parseMag
      rw [if_neg (dec_digs _).2]
      exact parse_dec _ (by omega)
    rw [hc] at hm ⊢
    unfold isDig at hd
    unfold atoiAll
    simp only
    rw [if_neg (by omega), hm]
    simp only
    rw [if_neg (by omega), if_neg (by omega), if_neg (by omega)]
    congr 1
    omega
theorem numOf_itoa (a : Int) (h0 : -9223372036854775808 ≤ a) (h1 : a ≤ 9223372036854775807) : numOf (itoa a) = some a := by
  unfold numOf
  rw [num_itoa a h0 h1]
  simp
theorem itoa_inj (a b : Int) (ha0 : -9223372036854775808 ≤ a) (ha1 : a ≤ 9223372036854775807) (hb0 : -9223372036854775808 ≤ b) (hb1 : b ≤ 9223372036854775807) : itoa a = itoa b ↔ a = b := by
  constructor
  · intro h
    have x := num_itoa a ha0 ha1
    rw [h, num_itoa b hb0 hb1] at x
    injection x with x
    exact x.symm
  · intro h; rw [h]
theorem begNum_itoa (a : Int) : begNum (itoa a) = true := by
  rcases itoa_form a with ⟨c, r, h, hd, _⟩ | ⟨c, r, h, hd, _⟩
  · rw [h]
    unfold isDig at hd
    have hn : ¬ (45 : UInt8) = c := by rintro rfl; simp at hd
    simp [begNum, Lib.trimPrefix, Lib.hasPrefix, List.isPrefixOf, hn]
    omega
  · rw [h]
    unfold isDig at hd
    simp [begNum, Lib.trimPrefix, Lib.hasPrefix, List.isPrefixOf]
    omega
end Go.Proofs.YtnmmojhbcnlboaaGreatDoor
/- What Lex reads of one number that is shown, and of two. No walk stands in this text. -/
namespace Go.Proofs.YtnmmojhbcnlboaaGreatDoor
open Go.RowKit Go.Lib Go.Sort
set_option linter.unusedVariables false
set_option linter.unusedSimpArgs false

def ascL (l : List UInt8) : List Let := l.map fun c => ((c.toNat : Int), false)
theorem decodeL_asc (c : UInt8) (r : List UInt8) (h : c.toNat < 128) : decodeL (c :: r) = (c.toNat, 1) := by
  rw [decodeL_N]
  exact decodeN_ascii _ _ _ _ _ (by simpa using h)
theorem lets_asc (l m : List UInt8) (h : ∀ c ∈ l, c.toNat < 128) : lets (l ++ m) = ascL l ++ lets m := by
  induction l with
  | nil => rfl
  | cons c l ih =>
    have hc := h c (by simp)
    rw [List.cons_append, lets_cons _ (by simp), decodeL_asc c _ hc]
    have hb : badL (c :: (l ++ m)) = false := by
      unfold badL
      rw [decodeL_asc c _ hc]
      simp
      omega
    rw [hb]
    simp only [List.drop_succ_cons, List.drop_zero]
    rw [ih (fun x hx => h x (by simp [hx]))]
    rfl
theorem lets_asc' (l : List UInt8) (h : ∀ c ∈ l, c.toNat < 128) : lets l = ascL l := by
  have := lets_asc l [] h
  simpa [lets_nil] using this
theorem wlen_app : ∀ (a rest : List Let), (∀ x ∈ a, isEnd x.1 = false) → (rest = [] ∨ ∃ y r, rest = y :: r ∧ isEnd y.1 = true) → wlen (a ++ rest) = a.length
  | [], rest, _, h => by
    rcases h with rfl | ⟨y, r, rfl, hy⟩
    · rfl
    · simp [wlen, hy]
  | x :: a, rest, ha, h => by
    have hx := ha x (by simp)
    simp only [List.cons_append, wlen, hx, List.length_cons]
    simp
    exact wlen_app a rest (fun y hy => ha y (by simp [hy])) h
theorem enc_asc : ∀ (l : List UInt8), (∀ c ∈ l, c.toNat < 128) → enc (ascL l) = l
  | [], _ => rfl
  | c :: l, h => by
    have hc := h c (by simp)
    have ih := enc_asc l (fun x hx => h x (by simp [hx]))
    have e : Lib.encodeRune (c.toNat : Int) = [c] := by
      unfold Lib.encodeRune
      rw [Lib.encodeRuneZ_one (by omega) (by omega)]
      simp
    simp only [ascL, enc, List.map_cons, List.flatMap_cons] at ih ⊢
    rw [e, ih]
    rfl
theorem bad_asc (l : List UInt8) : anyBad (ascL l) = false := by
  unfold anyBad ascL
  simp
/-- A byte that stands in a number. -/
def isNumB (c : UInt8) : Prop := isDig c ∨ c = 45
theorem itoa_num (a : Int) : ∀ c ∈ itoa a, isNumB c := by
  rcases itoa_form a with ⟨c, r, h, hd, hr⟩ | ⟨c, r, h, hd, hr⟩ <;> rw [h] <;> intro x hx
  · rcases List.mem_cons.1 hx with rfl | hx
    · exact .inl hd
    · exact .inl (hr x hx)
  · rcases List.mem_cons.1 hx with rfl | hx
    · exact .inr rfl
    · rcases List.mem_cons.1 hx with rfl | hx
      · exact .inl hd
      · exact .inl (hr x hx)
theorem numB_asc {c : UInt8} (h : isNumB c) : c.toNat < 128 := by
  rcases h with h | rfl
  · unfold isDig at h; omega
  · decide
theorem numB_code {c : UInt8} (h : isNumB c) : isBl (c.toNat : Int) = false ∧ (c.toNat : Int) ≠ 59 ∧ (c.toNat : Int) ≠ 40 ∧ (c.toNat : Int) ≠ 41 ∧ (c.toNat : Int) ≠ 34 := by
  rcases h with h | rfl
  · unfold isDig at h
    refine ⟨?_, by omega, by omega, by omega, by omega⟩
    simp only [isBl, Bool.or_eq_false_iff, beq_eq_false_iff_ne]
    omega
  · decide
theorem numB_end {c : UInt8} (h : isNumB c) : isEnd (c.toNat : Int) = false := by
  obtain ⟨h1, h2, h3, h4, h5⟩ := numB_code h
  simp [isEnd, h1, h2, h3, h4, h5]
theorem itoa_ne (a : Int) : itoa a ≠ [] := by
  rcases itoa_form a with ⟨c, r, h, _⟩ | ⟨c, r, h, _⟩ <;> rw [h] <;> simp
/-- The token of a number's text at a place. -/
theorem tok_num (ls : List Let) (p : Nat) (a : Int) (rest : List Let) (h0 : -9223372036854775808 ≤ a) (h1 : a ≤ 9223372036854775807) (hd : ls.drop p = ascL (itoa a) ++ rest) (hr : rest = [] ∨ ∃ y r, rest = y :: r ∧ isEnd y.1 = true) :
    tokAns ls p = ⟨⟨4, [], a, p⟩, ((p + (itoa a).length : Nat) : Int), 0⟩ := by
  have hn := itoa_num a
  have hw : wlen (ls.drop p) = (itoa a).length := by
    rw [hd, wlen_app _ rest _ hr]
    · simp [ascL]
    · intro x hx
      simp only [ascL, List.mem_map] at hx
      obtain ⟨c, hc, rfl⟩ := hx
      exact numB_end (hn c hc)
  have ht : (ls.drop p).take (wlen (ls.drop p)) = ascL (itoa a) := by
    rw [hw, hd, List.take_append_of_le_length (by simp [ascL]), List.take_of_length_le (by simp [ascL])]
  have he : enc (ascL (itoa a)) = itoa a := enc_asc _ (fun c hc => numB_asc (hn c hc))
  have hA : wordAns ls p = ⟨⟨4, [], a, p⟩, ((p + (itoa a).length : Nat) : Int), 0⟩ := by
    simp only [wordAns, ht, bad_asc, he]
    have e1 : wErr (itoa a) = 0 := by simp [wErr, begNum_itoa, numErr, numOf_itoa a h0 h1]
    have e2 : wTok (itoa a) = ⟨4, [], a, 0⟩ := by simp [wTok, begNum_itoa, numTok, numOf_itoa a h0 h1]
    rw [e1, e2, hw]
    simp
  cases hi : itoa a with
  | nil => exact absurd hi (itoa_ne a)
  | cons c r =>
    rw [hi] at hd hn
    obtain ⟨_, _, h40, h41, h34⟩ := numB_code (hn c (by simp))
    unfold tokAns
    rw [hd]
    simp only [ascL, List.map_cons, List.cons_append]
    rw [if_neg h40, if_neg h41, if_neg h34, hA, hi]
theorem skip_num (a : Int) (rest : List Let) : skipL false (ascL (itoa a) ++ rest) = 0 := by
  cases hi : itoa a with
  | nil => exact absurd hi (itoa_ne a)
  | cons c r =>
    have hn := itoa_num a
    rw [hi] at hn
    obtain ⟨hb, h59, _⟩ := numB_code (hn c (by simp))
    simp [ascL, skipL, hb, h59]
theorem lex_num (a : Int) (h0 : -9223372036854775808 ≤ a) (h1 : a ≤ 9223372036854775807) : lexP (itoa a) = ([⟨4, [], a, 0⟩], 0, 0) := by
  have hl := Lib.itoa_length_le a h0 h1
  have hL : lets (itoa a) = ascL (itoa a) := lets_asc' _ (fun c hc => numB_asc (itoa_num a c hc))
  have hlen : (ascL (itoa a)).length = (itoa a).length := by simp [ascL]
  have hpos : 0 < (itoa a).length := List.length_pos_iff.2 (itoa_ne a)
  have ht := tok_num (ascL (itoa a)) 0 a [] h0 h1 (by simp) (.inl rfl)
  have hs := skip_num a []
  rw [List.append_nil] at hs
  unfold lexP
  rw [if_neg (by omega), hL, hs, lexGo_step _ _ _ _ (by omega), ht]
  simp only [if_true, Int.toNat_natCast, Nat.zero_add]
  rw [List.drop_of_length_le (by omega)]
  simp only [skipL, Nat.add_zero]
  rw [lexGo_end _ _ _ _ (by omega)]
  rfl
theorem lex_nums (a b : Int) (ha0 : -9223372036854775808 ≤ a) (ha1 : a ≤ 9223372036854775807) (hb0 : -9223372036854775808 ≤ b) (hb1 : b ≤ 9223372036854775807) :
    lexP (itoa a ++ [32] ++ itoa b) = ([⟨4, [], a, 0⟩, ⟨4, [], b, (((itoa a).length + 1 : Nat) : Int)⟩], 0, 0) := by
  have hla := Lib.itoa_length_le a ha0 ha1
  have hlb := Lib.itoa_length_le b hb0 hb1
  have hpa : 0 < (itoa a).length := List.length_pos_iff.2 (itoa_ne a)
  have hpb : 0 < (itoa b).length := List.length_pos_iff.2 (itoa_ne b)
  have hL : lets (itoa a ++ [32] ++ itoa b) = ascL (itoa a) ++ (32, false) :: ascL (itoa b) := by
    rw [List.append_assoc, lets_asc _ _ (fun c hc => numB_asc (itoa_num a c hc)), lets_asc [32] _ (by simp), lets_asc' _ (fun c hc => numB_asc (itoa_num b c hc))]
    rfl
  have hlen : (ascL (itoa a) ++ (32, false) :: ascL (itoa b)).length = (itoa a).length + 1 + (itoa b).length := by simp [ascL]; omega
  have hda : (ascL (itoa a)).length = (itoa a).length := by simp [ascL]
  have ht1 := tok_num (ascL (itoa a) ++ (32, false) :: ascL (itoa b)) 0 a ((32, false) :: ascL (itoa b)) ha0 ha1 (by simp) (.inr ⟨_, _, rfl, rfl⟩)
  have hd1 : (ascL (itoa a) ++ (32, false) :: ascL (itoa b)).drop (itoa a).length = (32, false) :: ascL (itoa b) := by
    rw [← hda, List.drop_left]
  have hd2 : (ascL (itoa a) ++ (32, false) :: ascL (itoa b)).drop ((itoa a).length + 1) = ascL (itoa b) ++ [] := by
    rw [← List.drop_drop, hd1]; simp
  have ht2 := tok_num (ascL (itoa a) ++ (32, false) :: ascL (itoa b)) ((itoa a).length + 1) b [] hb0 hb1 hd2 (.inl rfl)
  have hs2 := skip_num b []
  rw [List.append_nil] at hs2
  have hsk : skipL false ((32, false) :: ascL (itoa b)) = 1 := by
    have : skipL false ((32, false) :: ascL (itoa b)) = skipL false (ascL (itoa b)) + 1 := by simp [skipL, isBl]
    rw [this, hs2]
  unfold lexP
  rw [if_neg (by simp; omega), hL, skip_num, lexGo_step _ _ _ _ (by omega), ht1]
  simp only [if_true, Int.toNat_natCast, Nat.zero_add]
  rw [hd1, hsk, hlen, show (itoa a).length + 1 + (itoa b).length = ((itoa a).length + (itoa b).length) + 1 by omega, lexGo_step _ _ _ _ (by omega), ht2]
  simp only [if_true, Int.toNat_natCast]
  rw [List.drop_of_length_le (by omega)]
  simp only [skipL, Nat.add_zero]
  rw [lexGo_end _ _ _ _ (by omega)]
  rfl
theorem show_num (a : Int) (h0 : -9223372036854775808 ≤ a) (h1 : a ≤ 9223372036854775807) : showP ⟨4, [], a, 0⟩ = (itoa a, 0) := by
  have hw : writeP ⟨4, [], a, 0⟩ = itoa a := by simp [writeP]
  have hr : readsP (itoa a) ⟨4, [], a, 0⟩ = true := by simp [readsP, lex_num a h0 h1, sameTok]
  simp [showP, hw, hr]
end Go.Proofs.YtnmmojhbcnlboaaGreatDoor
