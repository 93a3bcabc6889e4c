/- A change that is done: what burn and do answer. -/
import Derived.Test.YtedjfbkpebmggaaDm
namespace Go.Proofs.Ytedjfbkpebmggaa
open Go.Shelf Go.RowKit Go.Lib Go.Sort
set_option linter.unusedVariables false
set_option linter.unusedSimpArgs false
attribute [local go_sem ↓] Go.wp_at_zero Go.wp_at_succ
set_option maxRecDepth 100000 in
set_option maxHeartbeats 2000000 in
theorem burn_any (p q : Option Addr) (n c m d : Nat) (dn : Bool) (fu kk : Int) (w : World) (hr : -9223372036854775808 ≤ fu ∧ fu ≤ 9223372036854775807) :
    Calls Try.prog 34 #[.agg #[.slice p n c, .bool dn, .int .i64 fu], .int .u8 kk, .slice q m d] w fun e w' => 
      e = .returned (.tuple #[.agg #[if fu = 0 ∧ kk ≠ 1 then .slice p n c else .slice q m d, .bool (if fu = 0 then true else dn), .int .i64 (if 0 < fu then fu - 1 else fu)], .int .i64 (if fu = 0 then 12 else 0)]) ∧ Below w.heap.size w w' := by
  obtain ⟨V, hV⟩ : ∃ V, (Value.tuple #[.agg #[if fu = 0 ∧ kk ≠ 1 then .slice p n c else .slice q m d, .bool (if fu = 0 then true else dn), .int .i64 (if 0 < fu then fu - 1 else fu)], .int .i64 (if fu = 0 then 12 else 0)]) = V := ⟨_, rfl⟩
  rw [hV]
  by_cases h0 : fu = 0
  · by_cases hk : kk = 1
    · have HV : Hid (V = .tuple #[.agg #[.slice q m d, .bool true, .int .i64 0], .int .i64 12]) := by show _ = _; rw [← hV, if_neg (fun h => h.2 hk), if_pos h0, if_pos h0, if_neg (by omega), h0]
      subst hk h0
      clear hV
      go_enter Try.func34, Try.ntmps34
      go_wp2_with fail
      exact bodyPost_ret (v := .tuple #[.agg #[.slice q m d, .bool true, .int .i64 0], .int .i64 12]) (by simp [results, Try.results34, go_sem]) rfl ⟨by rw [HV.out], by (repeat (first | exact Below.refl _ _ | refine Below.alloc ?_ (by simp) _ | refine Below.setCell ?_ (by simp) _))⟩
    · have HV : Hid (V = .tuple #[.agg #[.slice p n c, .bool true, .int .i64 0], .int .i64 12]) := by show _ = _; rw [← hV, if_pos ⟨h0, hk⟩, if_pos h0, if_pos h0, if_neg (by omega), h0]
      have e1 : (kk == 1) = false := beq_eq_false_iff_ne.2 hk
      subst h0
      clear hV hk
      go_enter Try.func34, Try.ntmps34
      go_wp2_with fail
      exact bodyPost_ret (v := .tuple #[.agg #[.slice p n c, .bool true, .int .i64 0], .int .i64 12]) (by simp [results, Try.results34, go_sem]) rfl ⟨by rw [HV.out], by (repeat (first | exact Below.refl _ _ | refine Below.alloc ?_ (by simp) _ | refine Below.setCell ?_ (by simp) _))⟩
  · have e1 : (fu == 0) = false := beq_eq_false_iff_ne.2 h0
    rw [if_neg (fun h => h0 h.1), if_neg h0, if_neg h0] at hV
    by_cases h1 : 0 < fu
    · have q1 : IntKind.i64.wrap (fu - 1) = fu - 1 := by rw [IntKind.wrap_i64]; omega
      have HV : Hid (V = .tuple #[.agg #[.slice q m d, .bool dn, .int .i64 (fu - 1)], .int .i64 0]) := by show _ = _; rw [← hV, if_pos h1]
      clear h0 hV
      go_enter Try.func34, Try.ntmps34
      go_wp2_with fail
      exact bodyPost_ret (v := .tuple #[.agg #[.slice q m d, .bool dn, .int .i64 (fu - 1)], .int .i64 0]) (by simp [results, Try.results34, go_sem]) rfl ⟨by rw [HV.out], by (repeat (first | exact Below.refl _ _ | refine Below.alloc ?_ (by simp) _ | refine Below.setCell ?_ (by simp) _))⟩
    · have HV : Hid (V = .tuple #[.agg #[.slice q m d, .bool dn, .int .i64 fu], .int .i64 0]) := by show _ = _; rw [← hV, if_neg h1]
      clear h0 hV
      go_enter Try.func34, Try.ntmps34
      go_wp2_with fail
      exact bodyPost_ret (v := .tuple #[.agg #[.slice q m d, .bool dn, .int .i64 fu], .int .i64 0]) (by simp [results, Try.results34, go_sem]) rfl ⟨by rw [HV.out], by (repeat (first | exact Below.refl _ _ | refine Below.alloc ?_ (by simp) _ | refine Below.setCell ?_ (by simp) _))⟩
end Go.Proofs.Ytedjfbkpebmggaa
