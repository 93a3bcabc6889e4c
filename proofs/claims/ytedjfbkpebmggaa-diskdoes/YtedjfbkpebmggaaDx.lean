/- What a change answers, in four ways; how many files a disk has behind it. -/
import Derived.Test.YtedjfbkpebmggaaDw
namespace Go.Proofs.Ytedjfbkpebmggaa
open Go.Shelf Go.RowKit Go.Lib Go.Sort
set_option linter.unusedVariables false
set_option linter.unusedSimpArgs false
theorem eq_self (s : ByteArray) : (s.toList == s.toList) = true := by simp
/-- What a change answers, in four ways. -/
theorem doR_ways {fs : List DF} (h : OkF fs) (dn : Bool) (fu kk : Int) (nm tt dt : ByteArray) :
    ((doR fs dn fu kk nm tt dt).e = 0 ∧ dn = false ∧ (doR fs dn fu kk nm tt dt).dn = false ∧ chgE fs kk nm tt dt = 0 ∧ (doR fs dn fu kk nm tt dt).fs = chgF fs kk nm tt dt) ∨
    ((doR fs dn fu kk nm tt dt).e ≠ 0 ∧ (doR fs dn fu kk nm tt dt).e ≠ 12 ∧ (doR fs dn fu kk nm tt dt).fs = fs ∧ (doR fs dn fu kk nm tt dt).dn = dn ∧ (doR fs dn fu kk nm tt dt).fu = fu) ∨
    ((doR fs dn fu kk nm tt dt).e = 12 ∧ dn = true ∧ (doR fs dn fu kk nm tt dt).fs = fs ∧ (doR fs dn fu kk nm tt dt).dn = dn ∧ (doR fs dn fu kk nm tt dt).fu = fu) ∨
    ((doR fs dn fu kk nm tt dt).e = 12 ∧ dn = false ∧ (doR fs dn fu kk nm tt dt).dn = true) := by
  unfold doR
  by_cases hk : ¬ (1 ≤ kk ∧ kk ≤ 4)
  · rw [if_pos hk]
    exact .inr (.inl ⟨by simp, by simp, rfl, rfl, rfl⟩)
  rw [if_neg hk]
  by_cases hd : dn = true
  · rw [if_pos hd]
    exact .inr (.inr (.inl ⟨rfl, hd, rfl, rfl, rfl⟩))
  rw [if_neg hd]
  have hd' : dn = false := by simpa using hd
  by_cases he : chgE fs kk nm tt dt ≠ 0
  · rw [if_pos he]
    refine .inr (.inl ⟨he, ?_, rfl, rfl, rfl⟩)
    show chgE fs kk nm tt dt ≠ 12
    unfold chgE putE synE movE
    split
    · split
      · simp
      · split <;> simp
    · split
      · split <;> simp
      · split
        · split
          · split <;> simp
          · simp
        · split <;> simp
  rw [if_neg he]
  by_cases h0 : fu = 0
  · exact .inr (.inr (.inr ⟨by simp [h0], hd', by simp [h0]⟩))
  · refine .inl ⟨by simp [h0], hd', by simp [h0], by simpa using he, by simp [h0]⟩
theorem wi_length (f : DF) (fs : List DF) : (wi f fs).length ≤ fs.length + 1 := by
  unfold wi
  rw [insK_length]
  have := wo_length f.n fs
  omega
theorem chg_length (fs : List DF) (kk : Int) (nm tt dt : ByteArray) : (chgF fs kk nm tt dt).length ≤ fs.length + 1 := by
  have h1 := wo_length nm fs
  unfold chgF putF synF movF
  split
  · have := wi_length ⟨nm, dt, 0⟩ (wo nm fs); omega
  · split
    · exact wi_length _ _
    · split
      · have := wi_length ⟨tt, (fnd nm fs).d, (fnd nm fs).y⟩ (wo nm fs); omega
      · omega
theorem doR_length (fs : List DF) (dn : Bool) (fu kk : Int) (nm tt dt : ByteArray) : (doR fs dn fu kk nm tt dt).fs.length ≤ fs.length + 1 := by
  unfold doR
  split
  · simp
  · split
    · simp
    · split
      · simp
      · show (if fu = 0 ∧ kk ≠ 1 then fs else chgF fs kk nm tt dt).length ≤ fs.length + 1
        split
        · omega
        · exact chg_length _ _ _ _ _
theorem doR_range (fs : List DF) (dn : Bool) (fu kk : Int) (nm tt dt : ByteArray) (h : -9223372036854775808 ≤ fu ∧ fu ≤ 9223372036854775807) : -9223372036854775808 ≤ (doR fs dn fu kk nm tt dt).fu ∧ (doR fs dn fu kk nm tt dt).fu ≤ 9223372036854775807 := by
  unfold doR
  split
  · exact h
  · split
    · exact h
    · split
      · exact h
      · show -9223372036854775808 ≤ (if 0 < fu then fu - 1 else fu) ∧ (if 0 < fu then fu - 1 else fu) ≤ 9223372036854775807
        split <;> omega
end Go.Proofs.Ytedjfbkpebmggaa
