/- What words begin with, as the reference asks for it. No walk stands in this text. -/
import Derived.Test.YtimnnebmjapneaaDoorGf
namespace Go.Proofs.YtimnnebmjapneaaDoor
open Go.RowKit Go.Lib
set_option linter.unusedVariables false
theorem hd_enc (x : Int) (h : okZ x) : ∃ c r, Lib.encodeRune x = c :: r ∧ ((48 ≤ c.toNat ∧ c.toNat ≤ 57) ↔ (48 ≤ x ∧ x ≤ 57)) ∧ (c = 45 ↔ x = 45) ∧ (x = 45 → r = []) := by
  obtain ⟨r, rfl, hr⟩ := h
  by_cases h1 : (r : Int) ≤ 127
  · refine ⟨((r : Int).toNat.toUInt8), [], ?_, ?_, ?_, fun _ => rfl⟩
    · unfold Lib.encodeRune
      rw [Lib.encodeRuneZ_one (by omega) h1]
      rfl
    · have : ((r : Int).toNat.toUInt8).toNat = r := by simp; omega
      rw [this]; omega
    · rw [← UInt8.toNat_inj]
      have : ((r : Int).toNat.toUInt8).toNat = r := by simp; omega
      rw [this]
      show r = 45 ↔ _
      omega
  · have key : ∀ (a : Int) (m : List Int), encodeRuneZ (r : Int) = a :: m → 128 ≤ a → a ≤ 255 → ∃ c r', Lib.encodeRune (r : Int) = c :: r' ∧ ((48 ≤ c.toNat ∧ c.toNat ≤ 57) ↔ (48 ≤ (r : Int) ∧ (r : Int) ≤ 57)) ∧ (c = 45 ↔ (r : Int) = 45) ∧ ((r : Int) = 45 → r' = []) := by
      intro a m e ha hb
      have hc : (a.toNat.toUInt8).toNat = a.toNat := by simp; omega
      refine ⟨a.toNat.toUInt8, m.map fun x => x.toNat.toUInt8, ?_, ?_, ?_, fun h => by omega⟩
      · unfold Lib.encodeRune; rw [e]; rfl
      · rw [hc]; omega
      · rw [← UInt8.toNat_inj, hc]
        show a.toNat = 45 ↔ _
        omega
    unfold encodeRuneZ at key
    rw [if_neg (by omega)] at key
    split at key
    · exact key _ _ rfl (by omega) (by omega)
    · split at key
      · exact key _ _ rfl (by omega) (by omega)
      · split at key
        · exact key _ _ rfl (by omega) (by omega)
        · exact key _ _ rfl (by omega) (by omega)
theorem enc_cons (x : Let) (l : List Let) : enc (x :: l) = Lib.encodeRune x.1 ++ enc l := by simp [enc]
/-- Whether letters begin as a number does. -/
def begR : List Let → Bool
  | [] => false
  | x :: l => digR x.1 || (x.1 == 45 && match l with
    | [] => false
    | y :: _ => digR y.1)
theorem trim_yes (l : List UInt8) : Lib.trimPrefix (45 :: l) [45] = l := by
  simp [Lib.trimPrefix, Lib.hasPrefix]
theorem trim_no (c : UInt8) (l : List UInt8) (h : c ≠ 45) : Lib.trimPrefix (c :: l) [45] = c :: l := by
  have : ¬ (45 : UInt8) = c := fun e => h e.symm
  simp [Lib.trimPrefix, Lib.hasPrefix, this]
theorem digR_iff (r : Int) : digR r = true ↔ 48 ≤ r ∧ r ≤ 57 := by simp [digR]
theorem begNum_enc (l : List Let) (h : ∀ x ∈ l, okZ x.1) : begNum (enc l) = begR l := by
  cases l with
  | nil => simp [begNum, begR, enc, Lib.trimPrefix, Lib.hasPrefix]
  | cons x l =>
    obtain ⟨c, r, e, h1, h2, h3⟩ := hd_enc x.1 (h x (by simp))
    rw [enc_cons, e]
    by_cases hx : x.1 = 45
    · obtain rfl := h3 hx
      obtain rfl := h2.2 hx
      unfold begNum
      rw [List.cons_append, List.nil_append, trim_yes]
      have hd : digR 45 = false := by decide
      simp only [begR, hx, hd, Bool.false_or, beq_self_eq_true, Bool.true_and]
      cases l with
      | nil => simp [enc]
      | cons y l =>
        obtain ⟨c', r', e', h1', h2', h3'⟩ := hd_enc y.1 (h y (by simp))
        rw [enc_cons, e']
        simp only [List.cons_append]
        rw [Bool.eq_iff_iff, digR_iff, ← h1']
        simp
    · have hc : c ≠ 45 := fun e => hx (h2.1 e)
      unfold begNum
      rw [List.cons_append, trim_no _ _ hc]
      have hb : (x.1 == 45) = false := beq_eq_false_iff_ne.2 hx
      simp only [begR, hb, Bool.false_and, Bool.or_false]
      rw [Bool.eq_iff_iff, digR_iff, ← h1]
      simp
theorem GA.take {w : World} {p : Option Addr} {ls : List Let} (h : GA w p ls) (n : Nat) : GA w p (ls.take n) := by
  intro h0
  rw [List.length_take] at h0
  obtain ⟨b, o, rfl, hlt, hc⟩ := h (by omega)
  refine ⟨b, o, rfl, hlt, fun j hj => ?_⟩
  rw [List.length_take] at hj
  rw [List.getElem_take]
  exact hc j (by omega)
/-- Numbers, as number reads them. -/
theorem number_any (l : List UInt8) (w : World) (hb : begNum l = true) (hl : l.length ≤ 100000) (T : Option Int) (HT : Hid (numOf l = T)) :
    Calls Tryd.prog 41 #[.string ⟨l.toArray⟩] w fun e w' => e = .returned (numV T) ∧ Below w.heap.size w w' := by
  have hT := HT.out
  rw [numOf_ref l hb] at hT
  cases l with
  | nil => simp [begNum, Lib.trimPrefix, Lib.hasPrefix] at hb
  | cons c r =>
    unfold refNum at hT
    simp only at hT
    by_cases hc : c = 45
    · subst hc
      rw [if_pos rfl] at hT
      refine number_neg r w ?_ (by simp at hl; omega) T hT
      rintro rfl
      unfold begNum at hb
      rw [trim_yes] at hb
      cases hb
    · rw [if_neg hc] at hT
      exact number_pos (c :: r) w (by simp) hl (fun c' r' e => by injection e with e _; subst e; exact hc) T hT
end Go.Proofs.YtimnnebmjapneaaDoor
