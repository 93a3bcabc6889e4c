/- What steps, wholes and columns answers. -/
import Derived.Test.YtajomnfeicfdlaaGreatDoorPaPb
import Derived.Test.YtajomnfeicfdlaaGreatDoorLStpLIntLCl
namespace Go.Proofs.YtajomnfeicfdlaaGreatDoor
open Go.Shelf Go.RowKit Go.Lib
set_option linter.unusedVariables false
set_option linter.unusedSimpArgs false
attribute [local go_sem ↓] Go.wp_at_zero Go.wp_at_succ
set_option maxRecDepth 100000 in
set_option maxHeartbeats 1000000 in
theorem steps_any (t p : Nat) : SliceC rStp 3 32 stpsP 2079 t p 121 := by
 intro K D w st v xs htb h hDK hxs hl
 obtain ⟨W0, hW0, hP0, hK0, hs0, hg0⟩ := h.box
 have cw := cellR (k := 0) hg0 rfl
 have hls : ListIs rStp 3 32 D W0 v xs := hxs.mono mStp (fun _ h => h) (hK0.less hDK)
 have C : Hid (Calls Tryz.prog 139 #[wk t p, v, .int .u64 64, .func (.func 140) #[wk t p] #[]] W0 fun e w' => ∃ (N : Nat → Prop) (v' : Value), e = .returned v' ∧ (∀ b, N b → w.heap.size ≤ b) ∧ PortIs (fun b => K b ∨ N b) w' t p (stpsP st xs).2 ∧ ListIs rStp 3 32 (fun b => D b ∨ N b) w' v' (stpsP st xs).1 ∧ Kept K w w') := by
  refine (list51_any stpP stp0 64 2069 t p 140 (wk t p) (by omega) (by omega) grows_stp e52 (step_part t p) K D W0 st v xs (htb.mono (fun _ h => h) hK0) (hP0.less fun b hb => .inl hb) hDK hls hl).mono ?_
  rintro e w' ⟨N, v', h1, h2, h3, h4, h5⟩
  exact ⟨N, v', h1, fun b hb => by have := h2 b hb; omega, h3, h4, hK0.trans h5⟩
 obtain ⟨q0, c0, rfl, _⟩ := hxs
 unfold wk at C ⊢
 clear h hP0 hK0 hs0 hg0 hls
 go_enter Tryz.func121, Tryz.ntmps121
 go_wp2_with fail
 refine C.out.mono ?_
 rintro e w2 ⟨N, v', rfl, h1, h2, h3, h4⟩
 have H2 : Hid ((∀ b, N b → w.heap.size ≤ b) ∧ PortIs (fun b => K b ∨ N b) w2 t p (stpsP st xs).2 ∧ ListIs rStp 3 32 (fun b => D b ∨ N b) w2 v' (stpsP st xs).1 ∧ Kept K w w2) := ⟨h1, h2, h3, h4⟩
 obtain ⟨q1, c1, hv, _⟩ := h3
 subst hv
 clear h1 h2 h4 C
 go_wp2_with fail
 go_ret
 exact ⟨N, _, rfl, H2.out⟩
set_option maxRecDepth 100000 in
set_option maxHeartbeats 1000000 in
theorem wholes_any (t p : Nat) : SliceC rInt 1 8 intsP 20 t p 122 := by
 intro K D w st v xs htb h hDK hxs hl
 obtain ⟨W0, hW0, hP0, hK0, hs0, hg0⟩ := h.box
 have cw := cellR (k := 0) hg0 rfl
 have hls : ListIs rInt 1 8 D W0 v xs := hxs.mono mInt (fun _ h => h) (hK0.less hDK)
 have C : Hid (Calls Tryz.prog 141 #[wk t p, v, .int .u64 64, .func (.func 120) #[wk t p] #[]] W0 fun e w' => ∃ (N : Nat → Prop) (v' : Value), e = .returned v' ∧ (∀ b, N b → w.heap.size ≤ b) ∧ PortIs (fun b => K b ∨ N b) w' t p (intsP st xs).2 ∧ ListIs rInt 1 8 (fun b => D b ∨ N b) w' v' (intsP st xs).1 ∧ Kept K w w') := by
  refine (list53_any longP 0 64 10 t p 120 (wk t p) (by omega) (by omega) grows_long e32 (whole_part t p) K D W0 st v xs (htb.mono (fun _ h => h) hK0) (hP0.less fun b hb => .inl hb) hDK hls hl).mono ?_
  rintro e w' ⟨N, v', h1, h2, h3, h4, h5⟩
  exact ⟨N, v', h1, fun b hb => by have := h2 b hb; omega, h3, h4, hK0.trans h5⟩
 obtain ⟨q0, c0, rfl, _⟩ := hxs
 unfold wk at C ⊢
 clear h hP0 hK0 hs0 hg0 hls
 go_enter Tryz.func122, Tryz.ntmps122
 go_wp2_with fail
 refine C.out.mono ?_
 rintro e w2 ⟨N, v', rfl, h1, h2, h3, h4⟩
 have H2 : Hid ((∀ b, N b → w.heap.size ≤ b) ∧ PortIs (fun b => K b ∨ N b) w2 t p (intsP st xs).2 ∧ ListIs rInt 1 8 (fun b => D b ∨ N b) w2 v' (intsP st xs).1 ∧ Kept K w w2) := ⟨h1, h2, h3, h4⟩
 obtain ⟨q1, c1, hv, _⟩ := h3
 subst hv
 clear h1 h2 h4 C
 go_wp2_with fail
 go_ret
 exact ⟨N, _, rfl, H2.out⟩
set_option maxRecDepth 100000 in
set_option maxHeartbeats 1000000 in
theorem columns_any (t p : Nat) : SliceC rCl 2 24 clsP 2069 t p 135 := by
 intro K D w st v xs htb h hDK hxs hl
 obtain ⟨W0, hW0, hP0, hK0, hs0, hg0⟩ := h.box
 have cw := cellR (k := 0) hg0 rfl
 have hls : ListIs rCl 2 24 D W0 v xs := hxs.mono mCl (fun _ h => h) (hK0.less hDK)
 have C : Hid (Calls Tryz.prog 152 #[wk t p, v, .int .u64 64, .func (.func 153) #[wk t p] #[]] W0 fun e w' => ∃ (N : Nat → Prop) (v' : Value), e = .returned v' ∧ (∀ b, N b → w.heap.size ≤ b) ∧ PortIs (fun b => K b ∨ N b) w' t p (clsP st xs).2 ∧ ListIs rCl 2 24 (fun b => D b ∨ N b) w' v' (clsP st xs).1 ∧ Kept K w w') := by
  refine (list64_any clP cl0 64 2059 t p 153 (wk t p) (by omega) (by omega) grows_cl e65 (column_part t p) K D W0 st v xs (htb.mono (fun _ h => h) hK0) (hP0.less fun b hb => .inl hb) hDK hls hl).mono ?_
  rintro e w' ⟨N, v', h1, h2, h3, h4, h5⟩
  exact ⟨N, v', h1, fun b hb => by have := h2 b hb; omega, h3, h4, hK0.trans h5⟩
 obtain ⟨q0, c0, rfl, _⟩ := hxs
 unfold wk at C ⊢
 clear h hP0 hK0 hs0 hg0 hls
 go_enter Tryz.func135, Tryz.ntmps135
 go_wp2_with fail
 refine C.out.mono ?_
 rintro e w2 ⟨N, v', rfl, h1, h2, h3, h4⟩
 have H2 : Hid ((∀ b, N b → w.heap.size ≤ b) ∧ PortIs (fun b => K b ∨ N b) w2 t p (clsP st xs).2 ∧ ListIs rCl 2 24 (fun b => D b ∨ N b) w2 v' (clsP st xs).1 ∧ Kept K w w2) := ⟨h1, h2, h3, h4⟩
 obtain ⟨q1, c1, hv, _⟩ := h3
 subst hv
 clear h1 h2 h4 C
 go_wp2_with fail
 go_ret
 exact ⟨N, _, rfl, H2.out⟩
end Go.Proofs.YtajomnfeicfdlaaGreatDoor
