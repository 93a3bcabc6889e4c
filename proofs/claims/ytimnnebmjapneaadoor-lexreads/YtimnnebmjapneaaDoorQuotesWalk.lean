/- The law LexQuotes returns true. -/
import Derived.Test.YtimnnebmjapneaaDoorLn
namespace Go.Proofs.YtimnnebmjapneaaDoor
open Go.RowKit Go.Lib Go.Sort
set_option linter.unusedVariables false
set_option linter.unusedSimpArgs false
attribute [local go_sem ↓] Go.wp_at_zero Go.wp_at_succ

theorem enc_some (r : Int) : 1 ≤ (Utf8.encode r).size ∧ (Utf8.encode r).size ≤ 4 := by
  unfold Utf8.encode
  generalize (if Utf8.valid r = true then r.toNat else Utf8.runeError) = c
  simp only
  split
  · exact ⟨Nat.le_refl 1, by show 1 ≤ 4; omega⟩
  split
  · exact ⟨by show 1 ≤ 2; omega, by show 2 ≤ 4; omega⟩
  split
  · exact ⟨by show 1 ≤ 3; omega, by show 3 ≤ 4; omega⟩
  · exact ⟨by show 1 ≤ 4; omega, by show 4 ≤ 4; omega⟩
theorem same_of {x y : Tok} (h : sameTok x y = true) : x = y := by
  obtain ⟨k, t, n, a⟩ := x
  obtain ⟨k', t', n', a'⟩ := y
  simp only [sameTok, Bool.and_eq_true, decide_eq_true_eq] at h
  obtain ⟨⟨⟨rfl, rfl⟩, rfl⟩, rfl⟩ := h
  rfl
/-- What is shown is read as the token. -/
theorem reads_of {l : List UInt8} {t : Tok} (h : readsP l t = true) : ∃ p pl, lexP l = ([{ t with a := p }], 0, pl) := by
  unfold readsP at h
  split at h
  · rename_i h0
    split at h
    · rename_i x hx
      have := same_of h
      obtain ⟨⟨ts, er, pl⟩, hP⟩ : ∃ P, lexP l = P := ⟨_, rfl⟩
      rw [hP] at h0 hx
      simp only at h0 hx
      rw [hP, hx, h0]
      exact ⟨x.a, pl, by rw [← this]⟩
    · cases h
  · cases h
theorem show_cases (t : Tok) : ((showP t).2 ≠ 0 ∧ (showP t).1 = []) ∨ ((showP t).2 = 0 ∧ readsP (showP t).1 t = true ∧ (showP t).1 = writeP t ∧ t.t.length ≤ 256) := by
  unfold showP
  split
  · left; simp
  · split
    · rename_i h1 h2; right; exact ⟨rfl, h2, rfl, by omega⟩
    · left; simp
end Go.Proofs.YtimnnebmjapneaaDoor
