/- What a name's checks answer, in the program and in the reference; the reference's Check of any value. -/
import Derived.Test.YthfoijnjgdeaaaaDoorRa
import Derived.Test.YthfoijnjgdeaaaaDoorChkB
namespace Go.Proofs.YthfoijnjgdeaaaaDoor
open Go.RowKit Go.Lib
set_option linter.unusedVariables false
attribute [local go_sem ↓] Go.wp_at_zero Go.wp_at_succ

/-- Why a name is none. -/
def nameV (s : ByteArray) : Int := if s.size = 0 ∨ 64 < s.size then 4 else if Lib.validD s.data.toList then 0 else 9
set_option maxHeartbeats 1000000 in
theorem checkName_any (s : ByteArray) (w : World) (hs : s.size ≤ 9223372036854775807) (hT : Lib.Utf8Tabs 0 1 w) :
    Calls Tryd.prog 48 #[.string s] w fun e w' => e = .returned (.int .i64 (nameV s)) ∧ Below w.heap.size w w' := by
  unfold nameV
  by_cases h0 : s.size = 0
  · rw [if_pos (.inl h0)]
    have t5 : s.toList.isEmpty = true := (empty_iff s).2 h0
    clear h0
    go_enter Tryd.func48, Tryd.ntmps48
    go_wp2
    go_ret
    exact ⟨rfl, Below.refl _ _⟩
  have t5 : s.toList.isEmpty = false := full_of s h0
  by_cases h1 : 64 < s.size
  · rw [if_pos (.inr h1)]
    have hl : (64 : Int) < (s.size : Int) := by omega
    clear h0
    go_enter Tryd.func48, Tryd.ntmps48
    go_wp2
    go_ret
    exact ⟨rfl, Below.refl _ _⟩
  rw [if_neg (by omega)]
  have hl : ¬ (64 : Int) < (s.size : Int) := by omega
  have cU := checkUtf_any s w hs hT
  obtain ⟨R, hR⟩ : ∃ R, (if Lib.validD s.data.toList then (0 : Int) else 9) = R := ⟨_, rfl⟩
  rw [hR] at cU ⊢
  have CU : Hid (Calls Tryd.prog 76 #[.string s] w fun e w' => e = .returned (.int .i64 R) ∧ Below w.heap.size w w') := cU
  clear cU hR h0 h1 hT
  go_enter Tryd.func48, Tryd.ntmps48
  go_wp2_with fail
  refine CU.out.mono ?_
  rintro e w1 ⟨rfl, hb⟩
  go_wp2
  go_ret
  exact ⟨rfl, hb⟩
set_option maxHeartbeats 1000000 in
theorem nameRef_any (s : ByteArray) (w : World) :
    Calls Tryd.prog 52 #[.string s] w fun e w' => e = .returned (.int .i64 (nameV s)) ∧ Below w.heap.size w w' := by
  unfold nameV
  by_cases h0 : s.size = 0
  · rw [if_pos (.inl h0)]
    have t5 : s.toList.isEmpty = true := (empty_iff s).2 h0
    clear h0
    go_enter Tryd.func52, Tryd.ntmps52
    go_wp2
    go_ret
    exact ⟨rfl, Below.refl _ _⟩
  have t5 : s.toList.isEmpty = false := full_of s h0
  by_cases h1 : 64 < s.size
  · rw [if_pos (.inr h1)]
    have hl : (64 : Int) < (s.size : Int) := by omega
    clear h0
    go_enter Tryd.func52, Tryd.ntmps52
    go_wp2
    go_ret
    exact ⟨rfl, Below.refl _ _⟩
  rw [if_neg (by omega)]
  have hl : ¬ (64 : Int) < (s.size : Int) := by omega
  have cU := utf_any s w (by omega)
  obtain ⟨T, hR⟩ : ∃ R, Lib.validD s.data.toList = R := ⟨_, rfl⟩
  rw [hR] at cU ⊢
  have CU : Hid (Calls Tryd.prog 80 #[.string s] w fun e w' => e = .returned (.bool T) ∧ Below w.heap.size w w') := cU
  clear cU hR h0 h1
  cases T
  all_goals
    go_enter Tryd.func52, Tryd.ntmps52
    go_wp2_with fail
    refine CU.out.mono ?_
    rintro e w1 ⟨rfl, hb⟩
    go_wp2
    go_ret
    exact ⟨rfl, hb⟩
set_option maxHeartbeats 1000000 in
theorem checkRef_long (s : ByteArray) (w : World) (hl : 256 < s.size) :
    Calls Tryd.prog 81 #[.agg #[.int .u8 3, .bool false, .int .i64 0, .string s]] w fun e w' => e = .returned (.int .i64 4) ∧ Below w.heap.size w w' := by
  have hl' : (256 : Int) < (s.size : Int) := by omega
  clear hl
  go_enter Tryd.func81, Tryd.ntmps81
  go_wp2
  go_ret
  exact ⟨rfl, (Below.refl _ _).alloc (Nat.le_refl _) _⟩
/-- The reference's Check, of any value. -/
theorem checkRef_all (v : Val) (w : World) :
    Calls Tryd.prog 81 #[v.agg] w fun e w' => e = .returned (.int .i64 (chkV v)) ∧ Below w.heap.size w w' := by
  obtain ⟨k, b, n, s⟩ := v
  by_cases hs : s.size ≤ 1048576
  · exact checkRef_any k b n s w hs
  by_cases h : 4 ≤ k ∨ (k ≠ 1 ∧ b = true) ∨ (k ≠ 2 ∧ n ≠ 0) ∨ (k ≠ 3 ∧ s.size ≠ 0)
  · rw [chk_typ k b n s h]
    exact checkRef_typ k b n s w h
  · have e3 : k = 3 := by
      by_cases e : k = 3
      · exact e
      · exact absurd (.inr (.inr (.inr ⟨e, by omega⟩))) h
    subst e3
    have hb : b = false := by
      cases b with
      | false => rfl
      | true => exact absurd (.inr (.inl ⟨by decide, rfl⟩)) h
    have hn : n = 0 := by
      by_cases e : n = 0
      · exact e
      · exact absurd (.inr (.inr (.inl ⟨by decide, e⟩))) h
    subst hb hn
    rw [chk_fit 3 false 0 s (by decide) (.inr rfl) (.inr rfl) (.inl rfl), if_pos (by omega)]
    exact checkRef_long s w (by omega)
end Go.Proofs.YthfoijnjgdeaaaaDoor
