/- What a name's checks answer, in the program and in the reference; the reference's Check of any value. -/
import Derived.Test.YthfoijnjgdeaaabDoorRa
import Derived.Test.YthfoijnjgdeaaabDoorChkB
namespace Go.Proofs.YthfoijnjgdeaaabDoor
open Go.RowKit Go.Lib
set_option linter.unusedVariables false
attribute [local go_sem ↓] Go.wp_at_zero Go.wp_at_succ

/-- Why a name is none. -/
def nameV (s : ByteArray) : Int := if s.size = 0 ∨ 64 < s.size then 4 else if Lib.validD s.data.toList then 0 else 9
set_option maxHeartbeats 1000000 in
theorem checkName_any (s : ByteArray) (w : World) (hs : s.size ≤ 9223372036854775807) (hT : Lib.Utf8Tabs 0 1 w) :
    Calls Tryd.prog 18 #[.string s] w fun e w' => e = .returned (.int .i64 (nameV s)) ∧ Below w.heap.size w w' := by
  unfold nameV
  by_cases h0 : s.size = 0
  · rw [if_pos (.inl h0)]
    have t5 : s.toList.isEmpty = true := (empty_iff s).2 h0
    clear h0
    go_enter Tryd.func18, Tryd.ntmps18
    go_wp2
    go_ret
    exact ⟨rfl, Below.refl _ _⟩
  have t5 : s.toList.isEmpty = false := full_of s h0
  by_cases h1 : 64 < s.size
  · rw [if_pos (.inr h1)]
    have hl : (64 : Int) < (s.size : Int) := by omega
    clear h0
    go_enter Tryd.func18, Tryd.ntmps18
    go_wp2
    go_ret
    exact ⟨rfl, Below.refl _ _⟩
  rw [if_neg (by omega)]
  have hl : ¬ (64 : Int) < (s.size : Int) := by omega
  have cU := checkUtf_any s w hs hT
  obtain ⟨R, hR⟩ : ∃ R, (if Lib.validD s.data.toList then (0 : Int) else 9) = R := ⟨_, rfl⟩
  rw [hR] at cU ⊢
  have CU : Hid (Calls Tryd.prog 25 #[.string s] w fun e w' => e = .returned (.int .i64 R) ∧ Below w.heap.size w w') := cU
  clear cU hR h0 h1 hT
  go_enter Tryd.func18, Tryd.ntmps18
  go_wp2_with fail
  refine CU.out.mono ?_
  rintro e w1 ⟨rfl, hb⟩
  go_wp2
  go_ret
  exact ⟨rfl, hb⟩
end Go.Proofs.YthfoijnjgdeaaabDoor
