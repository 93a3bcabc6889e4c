/- Texts that are joined: the runes of one that is UTF-8, and of what stands behind it. No walk stands in this text. -/
import Derived.Test.YthfoijnjgdeaaaaDoorUtf
namespace Go.Proofs.YthfoijnjgdeaaaaDoor
open Go.RowKit Go.Lib
set_option linter.unusedVariables false

theorem getD_app (l m : List UInt8) (i : Nat) (h : i < l.length) : (l ++ m).getD i 0 = l.getD i 0 := by
  simp [List.getD, List.getElem?_append_left h]
theorem decodeL_app (l m : List UInt8) (hne : l ≠ []) (hv : ¬ ((decodeL l).1 = 65533 ∧ (decodeL l).2 = 1)) : decodeL (l ++ m) = decodeL l := by
  have hl : 0 < l.length := by
    cases l with
    | nil => exact absurd rfl hne
    | cons _ _ => simp
  rw [decodeL_N] at hv
  rw [decodeL_N, decodeL_N l]
  have hn : l.length ≤ (l ++ m).length := by simp
  have e0 := getD_app l m 0 hl
  rw [e0]
  rcases decodeN_shape l.length (l.getD 0 0).toNat (l.getD 1 0).toNat (l.getD 2 0).toNat (l.getD 3 0).toNat with ⟨h, e⟩ | ⟨h0, h1, h2, h3, e⟩ | ⟨h0, h1, h2, h3, h4, h5, e⟩ | ⟨h0, h1, h2, h3, h4, h5, h6, e⟩ | e
  · rw [e]; exact decodeN_ascii _ _ _ _ _ h
  · have e1 := getD_app l m 1 h1
    rw [e, e1]
    generalize (l.getD 0 0).toNat = b0 at *
    generalize (l.getD 1 0).toNat = b1 at *
    unfold decodeN
    rw [if_neg (by omega), if_pos (by omega), if_pos (by omega)]
  · have e1 := getD_app l m 1 (by omega)
    have e2 := getD_app l m 2 h1
    rw [e, e1, e2]
    generalize (l.getD 0 0).toNat = b0 at *
    generalize (l.getD 1 0).toNat = b1 at *
    generalize (l.getD 2 0).toNat = b2 at *
    unfold decodeN
    rw [if_neg (by omega), if_neg (by omega), if_pos (by omega), if_pos (by omega)]
  · have e1 := getD_app l m 1 (by omega)
    have e2 := getD_app l m 2 (by omega)
    have e3 := getD_app l m 3 h1
    rw [e, e1, e2, e3]
    generalize (l.getD 0 0).toNat = b0 at *
    generalize (l.getD 1 0).toNat = b1 at *
    generalize (l.getD 2 0).toNat = b2 at *
    generalize (l.getD 3 0).toNat = b3 at *
    unfold decodeN
    rw [if_neg (by omega), if_neg (by omega), if_neg (by omega), if_pos (by omega), if_pos (by omega)]
  · exact absurd ⟨congrArg Prod.fst e, congrArg Prod.snd e⟩ hv
theorem rl_fuel : ∀ (n m : Nat) (l : List UInt8), l.length ≤ n → l.length ≤ m → rl n l = rl m l
  | 0, m, l, h, _ => by
    have : l = [] := List.eq_nil_of_length_eq_zero (by omega)
    subst this
    rw [rl_nil, rl_nil]
  | n + 1, 0, l, _, h => by
    have : l = [] := List.eq_nil_of_length_eq_zero (by omega)
    subst this
    rw [rl_nil, rl_nil]
  | n + 1, m + 1, l, h, h' => by
    have hw := Lib.decodeL_width l
    unfold rl
    by_cases e : l = []
    · rw [if_pos e, if_pos e]
    · rw [if_neg e, if_neg e, rl_fuel n m _ (by rw [List.length_drop]; omega) (by rw [List.length_drop]; omega)]
theorem rl_app : ∀ (n : Nat) (l m : List UInt8), l.length ≤ n → Lib.validGoD n l = true → rl (n + m.length) (l ++ m) = rl n l ++ rl m.length m
  | 0, l, m, h, _ => by
    have : l = [] := List.eq_nil_of_length_eq_zero (by omega)
    subst this
    rw [rl_nil, List.nil_append, List.nil_append, Nat.zero_add]
  | n + 1, l, m, h, hv => by
    by_cases e : l = []
    · subst e
      rw [rl_nil, List.nil_append, List.nil_append]
      exact rl_fuel _ _ _ (by omega) (Nat.le_refl _)
    · unfold Lib.validGoD at hv
      rw [if_neg e] at hv
      by_cases b : (decodeL l).1 = 65533 ∧ (decodeL l).2 = 1
      · rw [if_pos b] at hv; cases hv
      rw [if_neg b] at hv
      have hw := Lib.decodeL_width l
      have hle := Lib.decodeL_le l e
      have ih := rl_app n (l.drop (decodeL l).2) m (by rw [List.length_drop]; omega) hv
      have e2 : l ++ m ≠ [] := by simp [e]
      rw [show n + 1 + m.length = (n + m.length) + 1 by omega]
      unfold rl
      rw [if_neg e, if_neg e2, decodeL_app l m e b, List.drop_append_of_le_length hle, ih, List.cons_append]
      cases m <;> rfl
/-- The runes of texts that are joined. -/
theorem runes_join (a b : ByteArray) (h : Lib.validD a.data.toList = true) : runesOf (a ++ b) = runesOf a ++ runesOf b := by
  rw [runesOf_rl, runesOf_rl, runesOf_rl]
  have e : (a ++ b).data.toList = a.data.toList ++ b.data.toList := by simp
  rw [e, List.length_append]
  exact rl_app _ _ _ (Nat.le_refl _) h
theorem count_join (a b : ByteArray) (h : Lib.validD a.data.toList = true) : Lib.runeCount (a ++ b) = Lib.runeCount a + Lib.runeCount b := by
  rw [← runesOf_length, ← runesOf_length, ← runesOf_length, runes_join a b h, List.length_append]
theorem cmpL_self_app : ∀ (x y : List Int), cmpL x (x ++ y) = if y = [] then 0 else -1
  | [], [] => rfl
  | [], _ :: _ => by simp [cmpL]
  | a :: x, y => by
    have := cmpL_self_app x y
    rw [List.cons_append]
    unfold cmpL
    rw [if_pos rfl, this]
theorem runes_none (b : ByteArray) : runesOf b = [] ↔ b.size = 0 := by
  rw [← rsAt_zero]
  by_cases h : 0 < b.size
  · rw [rsAt_cons b 0 h]
    exact ⟨fun e => (by cases e), fun e => (by omega)⟩
  · rw [rsAt_nil b 0 h]
    exact ⟨fun _ => by omega, fun _ => rfl⟩
theorem cmpS_join (a b : ByteArray) (h : Lib.validD a.data.toList = true) : cmpS a (a ++ b) = if b.size = 0 then 0 else -1 := by
  unfold cmpS
  rw [runes_join a b h, cmpL_self_app]
  by_cases e : b.size = 0
  · rw [if_pos ((runes_none b).2 e), if_pos e]
  · rw [if_neg (fun x => e ((runes_none b).1 x)), if_neg e]
end Go.Proofs.YthfoijnjgdeaaaaDoor
