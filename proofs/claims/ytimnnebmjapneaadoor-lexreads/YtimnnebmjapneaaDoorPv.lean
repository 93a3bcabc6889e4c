/- Numbers as the reference reads them: digits without a nought ahead. No walk stands in this text. -/
import Derived.Test.YtimnnebmjapneaaDoorPu
namespace Go.Proofs.YtimnnebmjapneaaDoor
open Go.RowKit Go.Lib
set_option linter.unusedVariables false
set_option linter.unusedSimpArgs false
/-! ### Numbers -/
/-- The number of digits. -/
def digVal : Nat → List UInt8 → Nat
  | acc, [] => acc
  | acc, c :: r => digVal (acc * 10 + (c.toNat - 48)) r
def allDig (l : List UInt8) : Prop := ∀ c ∈ l, 48 ≤ c.toNat ∧ c.toNat ≤ 57
theorem digVal_app : ∀ (l : List UInt8) (acc : Nat) (c : UInt8), digVal acc (l ++ [c]) = digVal acc l * 10 + (c.toNat - 48)
  | [], acc, c => rfl
  | d :: l, acc, c => digVal_app l _ c
theorem digVal_ge : ∀ (l : List UInt8) (acc : Nat), acc ≤ digVal acc l
  | [], acc => Nat.le_refl _
  | c :: l, acc => by
    have := digVal_ge l (acc * 10 + (c.toNat - 48))
    unfold digVal
    omega
theorem ofNat_dig (c : UInt8) (h : 48 ≤ c.toNat) : UInt8.ofNat (48 + (c.toNat - 48)) = c := by
  rw [show 48 + (c.toNat - 48) = c.toNat by omega]
  simp
theorem dec_small (u : Nat) (h : u < 10) : decDigits u = [UInt8.ofNat (48 + u)] := by rw [decDigits, dif_pos h]
theorem dec_big (u : Nat) (h : ¬ u < 10) : decDigits u = decDigits (u / 10) ++ [UInt8.ofNat (48 + u % 10)] := by
  conv => lhs; rw [decDigits]
  rw [dif_neg h]
/-- Digits without a nought ahead are those of their number. -/
theorem dec_canon : ∀ (n : Nat) (l : List UInt8) (u : Nat), l.length ≤ n → l ≠ [] → allDig l → (l.length = 1 ∨ l.head? ≠ some 48) → u = digVal 0 l → decDigits u = l := by
  intro n
  induction n with
  | zero => intro l u h hne; exact absurd (List.eq_nil_of_length_eq_zero (by omega)) hne
  | succ n ih =>
    intro l u h hne hd hc hu
    obtain ⟨l', c, rfl⟩ : ∃ l' c, l = l' ++ [c] := ⟨l.dropLast, l.getLast hne, (List.dropLast_concat_getLast hne).symm⟩
    have hcd := hd c (by simp)
    rw [digVal_app] at hu
    by_cases he : l' = []
    · subst he
      have e0 : digVal 0 [] = 0 := rfl
      rw [e0, Nat.zero_mul, Nat.zero_add] at hu
      clear ih
      have hu2 : u < 10 := by rw [hu]; omega
      rw [dec_small u hu2, hu, ofNat_dig c hcd.1, List.nil_append]
    · have hd' : allDig l' := fun x hx => hd x (by simp [hx])
      have hh : (l' ++ [c]).head? = l'.head? := by
        cases l' with
        | nil => exact absurd rfl he
        | cons x y => rfl
      have hlen : (l' ++ [c]).length ≠ 1 := by
        cases l' with
        | nil => exact absurd rfl he
        | cons x y => simp
      have hc' : l'.head? ≠ some 48 := by
        rcases hc with hc | hc
        · exact absurd hc hlen
        · rwa [hh] at hc
      have hpos : 1 ≤ digVal 0 l' := by
        cases l' with
        | nil => exact absurd rfl he
        | cons x y =>
          have hx := hd' x (by simp)
          have hx48 : x ≠ 48 := by simpa using hc'
          have hxn : x.toNat ≠ 48 := fun e => hx48 (UInt8.toNat_inj.1 (by simpa using e))
          have := digVal_ge y (0 * 10 + (x.toNat - 48))
          unfold digVal
          omega
      have ih' := ih l' (u / 10) (by simp at h; omega) he hd' (.inr hc') (by omega)
      rw [dec_big u (by omega), ih', show u % 10 = c.toNat - 48 by omega, ofNat_dig c hcd.1]
theorem digVal_one (u : Nat) (h : u < 10) : digVal 0 [UInt8.ofNat (48 + u)] = u := by
  have e1 : digVal 0 [UInt8.ofNat (48 + u)] = 0 * 10 + ((UInt8.ofNat (48 + u)).toNat - 48) := rfl
  have e2 := u8_of (show 48 + u < 256 by omega)
  rw [e1, e2]
  omega
theorem digVal_dec : ∀ (n u : Nat), u ≤ n → digVal 0 (decDigits u) = u := by
  intro n
  induction n with
  | zero =>
    intro u hu
    have h10 : u < 10 := by omega
    rw [dec_small u h10]
    exact digVal_one u h10
  | succ n ih =>
    intro u hu
    by_cases h : u < 10
    · rw [dec_small u h]
      exact digVal_one u h
    · have h1 := ih (u / 10) (by omega)
      have h2 := u8_of (show 48 + u % 10 < 256 by omega)
      rw [dec_big u h, digVal_app, h1, h2]
      clear h1 h2 ih
      omega
theorem dec_head : ∀ (n u : Nat), u ≤ n → 1 ≤ u → (decDigits u).head? ≠ some 48 := by
  intro n
  induction n with
  | zero => intro u hu h1; omega
  | succ n ih =>
    intro u hu h1
    by_cases h : u < 10
    · rw [dec_small u h]
      intro e
      simp only [List.head?_cons, Option.some.injEq] at e
      have := congrArg UInt8.toNat e
      rw [u8_of (by omega)] at this
      simp at this
      omega
    · have := ih (u / 10) (by omega) (by omega)
      rw [dec_big u h]
      cases hd : decDigits (u / 10) with
      | nil => exact absurd hd (dec_digs _).2
      | cons x y =>
        rw [hd] at this
        simpa using this
/-- A number as the reference reads it: its digits behind the sign. -/
def refDig (neg : Bool) (d : List UInt8) : Option Int :=
  if (∀ c ∈ d, 48 ≤ c.toNat ∧ c.toNat ≤ 57) ∧ digVal 0 d ≤ 9223372036854775808 ∧ ¬ (1 < d.length ∧ d.head? = some 48) ∧ ¬ (neg = true ∧ digVal 0 d = 0) ∧ ¬ (neg = false ∧ 9223372036854775807 < digVal 0 d)
  then some (if neg then -(digVal 0 d : Int) else digVal 0 d) else none
def refNum (l : List UInt8) : Option Int := match l with
  | [] => none
  | c :: r => if c = 45 then refDig true r else refDig false l
theorem canon_of {d : List UInt8} (hne : d ≠ []) (h : ¬ (1 < d.length ∧ d.head? = some 48)) : d.length = 1 ∨ d.head? ≠ some 48 := by
  by_cases h1 : d.length = 1
  · exact .inl h1
  · refine .inr fun e => h ⟨?_, e⟩
    have := List.length_pos_iff.2 hne
    omega
theorem refDig_itoa {neg : Bool} {d : List UInt8} {v : Int} (hne : d ≠ []) (h : refDig neg d = some v) : itoa v = (if neg then 45 :: d else d) ∧ -9223372036854775808 ≤ v ∧ v ≤ 9223372036854775807 := by
  unfold refDig at h
  split at h
  · rename_i hc
    obtain ⟨h1, h2, h3, h4, h5⟩ := hc
    simp only [Option.some.injEq] at h
    have hcan := dec_canon _ d (digVal 0 d) (Nat.le_refl _) hne h1 (canon_of hne h3) rfl
    generalize digVal 0 d = u at *
    cases neg with
    | true =>
      simp only [if_true] at h ⊢
      have hu : u ≠ 0 := fun e => h4 ⟨rfl, e⟩
      subst h
      refine ⟨?_, by omega, by omega⟩
      unfold itoa
      rw [if_pos (by omega), show (-(u : Int)).natAbs = u by omega, hcan]
    | false =>
      simp only [Bool.false_eq_true, if_false] at h ⊢
      subst h
      have hu : u ≤ 9223372036854775807 := by
        rcases Nat.lt_or_ge 9223372036854775807 u with e | e
        · exact absurd ⟨rfl, e⟩ h5
        · exact e
      refine ⟨?_, by omega, by omega⟩
      unfold itoa
      rw [if_neg (by omega), Int.toNat_natCast, hcan]
  · cases h
theorem refDig_of (neg : Bool) (u : Nat) (h0 : neg = true → 1 ≤ u ∧ u ≤ 9223372036854775808) (h1 : neg = false → u ≤ 9223372036854775807) : refDig neg (decDigits u) = some (if neg then -(u : Int) else u) := by
  have hv := digVal_dec u u (Nat.le_refl _)
  have hdg := dec_digs u
  unfold refDig
  rw [hv, if_pos]
  refine ⟨fun c hc => hdg.1 c hc, ?_, ?_, ?_, ?_⟩
  · cases neg with
    | true => exact (h0 rfl).2
    | false => have := h1 rfl; omega
  · rintro ⟨hl, hh⟩
    by_cases h10 : u < 10
    · rw [dec_small u h10] at hl; simp at hl
    · exact dec_head u u (Nat.le_refl _) (by omega) hh
  · rintro ⟨hn, hu⟩
    have := h0 hn
    omega
  · rintro ⟨hn, hu⟩
    have := h1 hn
    omega
theorem parse_bd (l : List UInt8) (v : Int) (h : parseIntB 64 l = .ok v) : -9223372036854775808 ≤ v ∧ v ≤ 9223372036854775807 := by
  unfold parseIntB at h
  split at h
  · cases h
  · simp only at h
    split at h
    · cases h
    · cases h
    · rename_i u _
      split at h
      · cases h
      · split at h
        · cases h
        · rename_i h1 h2
          simp only [NumEnd.ok.injEq] at h
          have e63 : (2 : Nat) ^ (64 - 1) = 9223372036854775808 := by decide
          rw [e63] at h1 h2
          split at h
          · rename_i hneg
            have : ¬ 9223372036854775808 < u := fun e => h2 ⟨hneg, e⟩
            omega
          · rename_i hneg
            have : ¬ 9223372036854775808 ≤ u := fun e => h1 ⟨hneg, e⟩
            omega
/-- The reference's numbers are those that are read. -/
theorem numOf_ref (l : List UInt8) (hb : begNum l = true) : numOf l = refNum l := by
  have hpar : ∀ v, numOf l = some v → refNum l = some v := by
    intro v h
    unfold numOf at h
    split at h
    · rename_i v' hp
      split at h
      · rename_i hit
        simp only [Option.some.injEq] at h
        subst h
        have hbd := parse_bd l v' hp
        rw [← hit]
        unfold itoa
        by_cases hn : v' < 0
        · rw [if_pos hn]
          unfold refNum
          simp only [if_true]
          rw [refDig_of true v'.natAbs (fun _ => by omega) (fun h => by cases h)]
          simp only [if_true, Option.some.injEq]
          omega
        · rw [if_neg hn]
          have hd := refDig_of false v'.toNat (fun h => by cases h) (fun _ => by omega)
          obtain ⟨c, r, hc, hcd, _⟩ := dec_cons v'.toNat
          rw [hc] at hd ⊢
          unfold refNum
          simp only
          rw [if_neg (by intro e; subst e; exact absurd hcd.1 (by decide)), hd]
          simp
          omega
      · cases h
    · cases h
  have hrev : ∀ v, refNum l = some v → numOf l = some v := by
    intro v h
    unfold refNum at h
    cases l with
    | nil => cases h
    | cons c r =>
      simp only at h
      by_cases hc : c = 45
      · subst hc
        rw [if_pos rfl] at h
        have hne : r ≠ [] := by
          intro e
          subst e
          simp [begNum, Lib.trimPrefix] at hb
          revert hb
          decide
        obtain ⟨h1, h2, h3⟩ := refDig_itoa hne h
        rw [if_pos rfl] at h1
        rw [← h1]
        exact numOf_itoa v h2 h3
      · rw [if_neg hc] at h
        obtain ⟨h1, h2, h3⟩ := refDig_itoa (by simp) h
        simp only [Bool.false_eq_true, if_false] at h1
        rw [← h1]
        exact numOf_itoa v h2 h3
  cases h1 : numOf l with
  | some v => rw [hpar v h1]
  | none =>
    cases h2 : refNum l with
    | none => rfl
    | some v => rw [hrev v h2] at h1; cases h1
end Go.Proofs.YtimnnebmjapneaaDoor
