/- What flag, long and whole answer. -/
import Derived.Test.YtajomnfeicfdlaaGreatDoorWfWgWh
namespace Go.Proofs.YtajomnfeicfdlaaGreatDoor
open Go.Shelf Go.RowKit Go.Lib
set_option linter.unusedVariables false
set_option linter.unusedSimpArgs false
attribute [local go_sem ↓] Go.wp_at_zero Go.wp_at_succ
/-- The box of a walk. -/
abbrev wb (t p : Nat) : Obj := .cells #[.iface t (.pointer (some ⟨p, 0, none⟩))] 129
theorem PortIs.box {K : Nat → Prop} {w : World} {t p : Nat} {st : St} (h : PortIs K w t p st) : ∃ W0, w.alloc (wb t p) = W0 ∧ PortIs (fun b => K b ∨ b = w.heap.size) W0 t p st ∧ Kept K w W0 ∧ W0.heap.size = w.heap.size + 1 ∧ W0.heap[w.heap.size]? = some (wb t p) :=
 ⟨_, rfl, h.alloc _, (Kept.refl K w).alloc h.lt _, by simp, heap_alloc_new w _⟩
theorem kind40_any (K : Nat → Prop) (t p : Nat) (st : St) (k : Nat) (w : World) (h : PortIs K w t p st) (hk : k < 256) (hl : st.len ≤ 990000) :
  Calls Tryz.prog 128 #[wk t p, .int .u8 (k : Int)] w fun e w' => e = .returned (.int .u8 ((octP st k).1 : Int)) ∧ PortIs K w' t p (octP st k).2 ∧ Kept K w w' := by
 obtain ⟨W0, hW0, hP0, hK0, hs0, hg0⟩ := h.box
 have cw := cellR (k := 0) hg0 rfl
 have C : Hid (Calls Tryz.prog 146 #[wk t p, .int .u8 (k : Int)] W0 fun e w' => e = .returned (.int .u8 ((octP st k).1 : Int)) ∧ PortIs K w' t p (octP st k).2 ∧ Kept K w w') :=
  (kind58_any K t p st k W0 (hP0.less fun b hb => .inl hb) hk hl).mono fun e w' ⟨h1, h2, h3⟩ => ⟨h1, h2, hK0.trans h3⟩
 obtain ⟨⟨k1, st1⟩, hk1⟩ : ∃ q, octP st k = q := ⟨_, rfl⟩
 rw [hk1] at C ⊢
 simp only at C ⊢
 unfold wk at C ⊢
 clear h hk1 hP0 hK0 hs0 hg0
 go_enter Tryz.func128, Tryz.ntmps128
 go_wp2_with fail
 refine C.out.mono ?_
 rintro e w2 ⟨rfl, h1, h2⟩
 have H2 : Hid (PortIs K w2 t p st1 ∧ Kept K w w2) := ⟨h1, h2⟩
 clear h1 h2 C
 go_wp2_with fail
 go_ret
 exact ⟨rfl, H2.out⟩
set_option maxRecDepth 100000 in
set_option maxHeartbeats 1000000 in
theorem flag_any (K : Nat → Prop) (t p : Nat) (st : St) (b : Bool) (w : World) (h : PortIs K w t p st) (hl : st.len ≤ 990000) :
  Calls Tryz.prog 125 #[wk t p, .bool b] w fun e w' => e = .returned (.bool (flagP st b).1) ∧ PortIs K w' t p (flagP st b).2 ∧ Kept K w w' := by
 obtain ⟨W0, hW0, hP0, hK0, hs0, hg0⟩ := h.box
 have cw := cellR (k := 0) hg0 rfl
 have hm := m_oct h.isT p
 have eg := e_oct h.isT
 have hm2 := m_fail h.isT p
 obtain ⟨F, hF⟩ : ∃ F, ocF t = F := ⟨_, rfl⟩
 rw [hF] at hm eg
 obtain ⟨k, hk⟩ : ∃ k : Nat, (if b then 1 else 0) = k := ⟨_, rfl⟩
 have hk2 : k ≤ 1 := by rw [← hk]; split <;> omega
 obtain ⟨⟨k1, st1⟩, hk1⟩ : ∃ q, octP st k = q := ⟨_, rfl⟩
 have C : Hid (Calls Tryz.prog F #[.pointer (some ⟨p, 0, none⟩), .int .u8 (k : Int)] W0 fun e w' => e = .returned (.int .u8 (k1 : Int)) ∧ PortIs (fun b => K b ∨ b = w.heap.size) w' t p st1 ∧ Kept (fun b => K b ∨ b = w.heap.size) W0 w') := by
  have := oct_any _ t p st k W0 hP0 (by omega) hl
  rw [hk1, hF] at this
  exact this
 have hr : k1 < 256 := by have := octP_lt st k (by omega); rw [hk1] at this; exact this
 have HF : Hid (∀ W, PortIs K W t p st1 → Calls Tryz.prog 182 #[.pointer (some ⟨p, 0, none⟩)] W fun e w' => e = .returned (.tuple #[]) ∧ PortIs K w' t p (failP st1) ∧ Kept K W w') := fun W h => fail_any K t p st1 W h
 have HR : Hid (flagP st b = (k1 == 1, if 1 < k1 then failP st1 else st1)) := by show _ = _; simp only [flagP, hk, hk1]
 have HG : Hid (W0.heap[w.heap.size]? = some (wb t p)) := hg0
 have HK0 : Hid (Kept K w W0) := hK0
 unfold wk
 clear h hk1 hP0 hK0 hs0 hg0 hF
 have hkb : (b = true ∧ k = 1) ∨ (b = false ∧ k = 0) := by cases b <;> simp at hk <;> simp [hk]
 clear hk hk2
 have main : ∀ b' : Bool, ((b' = true ∧ k = 1) ∨ (b' = false ∧ k = 0)) → Calls Tryz.prog 125 #[.agg #[.iface t (.pointer (some ⟨p, 0, none⟩))], .bool b'] w fun e w' => e = .returned (.bool (k1 == 1)) ∧ PortIs K w' t p (if 1 < k1 then failP st1 else st1) ∧ Kept K w w' := by
  intro b' hb'
  have HB : Hid (((k1 : Int) == 1) = (k1 == 1)) := by
   show _ = _
   rw [Bool.eq_iff_iff]
   simp
   omega
  clear HR hkb
  rcases hb' with ⟨rfl, rfl⟩ | ⟨rfl, rfl⟩ <;>
  ·by_cases h1 : 1 < k1
   ·rw [if_pos h1]
    have z0 : (1 : Int) < (k1 : Int) := by omega
    clear h1
    go_enter Tryz.func125, Tryz.ntmps125
    go_wp2_with (go_at_fn F; refine C.out.mono ?_; rintro e w2 ⟨rfl, h1, h2⟩; have H2 : Hid (PortIs K w2 t p st1 ∧ Kept K w w2) := ⟨h1.less fun b hb => .inl hb, HK0.out.trans (h2.less fun b hb => .inl hb)⟩; have cw2 := cellR (k := 0) ((h2.block _ (.inr rfl)).trans HG.out) rfl; clear h1 h2 C)
    refine (HF.out _ H2.out.1).mono ?_
    rintro e w3 ⟨rfl, h3, h4⟩
    have H3 : Hid (PortIs K w3 t p (failP st1) ∧ Kept K w w3) := ⟨h3, H2.out.2.trans h4⟩
    clear h3 h4
    go_wp2_with fail
    go_ret
    exact ⟨by rw [← HB.out]; rfl, H3.out⟩
   ·rw [if_neg h1]
    have z0 : ¬ (1 : Int) < (k1 : Int) := by omega
    clear h1
    go_enter Tryz.func125, Tryz.ntmps125
    go_wp2_with (go_at_fn F; refine C.out.mono ?_; rintro e w2 ⟨rfl, h1, h2⟩; have H2 : Hid (PortIs K w2 t p st1 ∧ Kept K w w2) := ⟨h1.less fun b hb => .inl hb, HK0.out.trans (h2.less fun b hb => .inl hb)⟩; have cw2 := cellR (k := 0) ((h2.block _ (.inr rfl)).trans HG.out) rfl; clear h1 h2 C)
    go_ret
    exact ⟨by rw [← HB.out]; rfl, H2.out⟩
 rw [HR.out]
 exact main b hkb
end Go.Proofs.YtajomnfeicfdlaaGreatDoor
/- What long and whole answer. -/
namespace Go.Proofs.YtajomnfeicfdlaaGreatDoor
open Go.Shelf Go.RowKit Go.Lib
set_option linter.unusedVariables false
set_option linter.unusedSimpArgs false
attribute [local go_sem ↓] Go.wp_at_zero Go.wp_at_succ
/-- A number of 64 bits. -/
def I64 (n : Int) : Prop := -9223372036854775808 ≤ n ∧ n ≤ 9223372036854775807
theorem zig_lt {n : Int} (h : I64 n) : zig n < 18446744073709551616 := by
 obtain ⟨h1, h2⟩ := h
 unfold zig
 split <;> omega
theorem zag_in {u : Nat} (h : u < 18446744073709551616) : I64 (zag u) := by
 unfold zag I64
 split <;> omega
theorem zag_zig (n : Int) : zag (zig n) = n := by
 unfold zag zig
 split <;> split <;> omega
theorem zig_zag (u : Nat) : zig (zag u) = u := by
 unfold zag zig
 split <;> split <;> omega
theorem longP_in (st : St) (n : Int) (h : I64 n) : I64 (longP st n).1 := zag_in (numP_lt st _ (zig_lt h))
set_option maxRecDepth 100000 in
set_option maxHeartbeats 1000000 in
theorem long_any (K : Nat → Prop) (t p : Nat) (st : St) (n : Int) (w : World) (h : PortIs K w t p st) (hn : I64 n) (hl : st.len ≤ 990000) :
  Calls Tryz.prog 138 #[wk t p, .int .i64 n] w fun e w' => e = .returned (.int .i64 (longP st n).1) ∧ PortIs K w' t p (longP st n).2 ∧ Kept K w w' := by
 obtain ⟨W0, hW0, hP0, hK0, hs0, hg0⟩ := h.box
 have cw := cellR (k := 0) hg0 rfl
 have hm := m_num h.isT p
 have eg := e_num h.isT
 obtain ⟨F, hF⟩ : ∃ F, nuF t = F := ⟨_, rfl⟩
 rw [hF] at hm eg
 have hz := zig_lt hn
 obtain ⟨⟨u1, st1⟩, hk1⟩ : ∃ q, numP st (zig n) = q := ⟨_, rfl⟩
 have C : Hid (Calls Tryz.prog F #[.pointer (some ⟨p, 0, none⟩), .int .u64 (zig n : Int)] W0 fun e w' => e = .returned (.int .u64 (u1 : Int)) ∧ PortIs K w' t p st1 ∧ Kept K w w') := by
  have := num_any _ t p st (zig n) W0 hP0 hz hl
  rw [hk1, hF] at this
  exact this.mono fun e w' ⟨h1, h2, h3⟩ => ⟨h1, h2.less fun b hb => .inl hb, hK0.trans (h3.less fun b hb => .inl hb)⟩
 have hr : u1 < 18446744073709551616 := by have := numP_lt st _ hz; rw [hk1] at this; exact this
 have HR : Hid (longP st n = (zag u1, st1)) := by show _ = _; simp only [longP, hk1]
 unfold wk
 clear h hk1 hP0 hK0 hs0 hg0 hF
 obtain ⟨hn1, hn2⟩ := hn
 have main : Calls Tryz.prog 138 #[.agg #[.iface t (.pointer (some ⟨p, 0, none⟩))], .int .i64 n] w fun e w' => e = .returned (.int .i64 (zag u1)) ∧ PortIs K w' t p st1 ∧ Kept K w w' := by
  clear HR
  by_cases h0 : n < 0
  ·have hzn : (zig n : Int) = 2 * -(n + 1) + 1 := by unfold zig; rw [if_pos h0]; omega
   rw [hzn] at C
   clear hzn hz
   by_cases hu : u1 % 2 = 1
   ·have HZ : Hid (zag u1 = -((u1 : Int) / 2) - 1) := by show _ = _; unfold zag; rw [if_pos hu]; omega
    have y0 : ((u1 : Int) % 2 == 1) = true := by simp; omega
    clear hu
    go_enter Tryz.func138, Tryz.ntmps138
    go_wp2_with (go_at_fn F; refine C.out.mono ?_; rintro e w2 ⟨rfl, h1, h2⟩; have H2 : Hid (PortIs K w2 t p st1 ∧ Kept K w w2) := ⟨h1, h2⟩; clear h1 h2 C)
    go_ret
    exact ⟨by rw [HZ.out]; rfl, H2.out⟩
   ·have HZ : Hid (zag u1 = (u1 : Int) / 2) := by show _ = _; unfold zag; rw [if_neg hu]; omega
    have y0 : ((u1 : Int) % 2 == 1) = false := by simp; omega
    clear hu
    go_enter Tryz.func138, Tryz.ntmps138
    go_wp2_with (go_at_fn F; refine C.out.mono ?_; rintro e w2 ⟨rfl, h1, h2⟩; have H2 : Hid (PortIs K w2 t p st1 ∧ Kept K w w2) := ⟨h1, h2⟩; clear h1 h2 C)
    go_ret
    exact ⟨by rw [HZ.out]; rfl, H2.out⟩
  ·have hzn : (zig n : Int) = 2 * n := by unfold zig; rw [if_neg h0]; omega
   rw [hzn] at C
   have h00 : 0 ≤ n := by omega
   clear hzn hz h0
   by_cases hu : u1 % 2 = 1
   ·have HZ : Hid (zag u1 = -((u1 : Int) / 2) - 1) := by show _ = _; unfold zag; rw [if_pos hu]; omega
    have y0 : ((u1 : Int) % 2 == 1) = true := by simp; omega
    clear hu
    go_enter Tryz.func138, Tryz.ntmps138
    go_wp2_with (go_at_fn F; refine C.out.mono ?_; rintro e w2 ⟨rfl, h1, h2⟩; have H2 : Hid (PortIs K w2 t p st1 ∧ Kept K w w2) := ⟨h1, h2⟩; clear h1 h2 C)
    go_ret
    exact ⟨by rw [HZ.out]; rfl, H2.out⟩
   ·have HZ : Hid (zag u1 = (u1 : Int) / 2) := by show _ = _; unfold zag; rw [if_neg hu]; omega
    have y0 : ((u1 : Int) % 2 == 1) = false := by simp; omega
    clear hu
    go_enter Tryz.func138, Tryz.ntmps138
    go_wp2_with (go_at_fn F; refine C.out.mono ?_; rintro e w2 ⟨rfl, h1, h2⟩; have H2 : Hid (PortIs K w2 t p st1 ∧ Kept K w w2) := ⟨h1, h2⟩; clear h1 h2 C)
    go_ret
    exact ⟨by rw [HZ.out]; rfl, H2.out⟩
 rw [HR.out]
 exact main
set_option maxRecDepth 100000 in
set_option maxHeartbeats 1000000 in
theorem whole_any (K : Nat → Prop) (t p : Nat) (st : St) (n : Int) (w : World) (h : PortIs K w t p st) (hn : I64 n) (hl : st.len ≤ 990000) :
  Calls Tryz.prog 120 #[wk t p, .int .i64 n] w fun e w' => e = .returned (.int .i64 (longP st n).1) ∧ PortIs K w' t p (longP st n).2 ∧ Kept K w w' := by
 obtain ⟨W0, hW0, hP0, hK0, hs0, hg0⟩ := h.box
 have cw := cellR (k := 0) hg0 rfl
 have C : Hid (Calls Tryz.prog 138 #[wk t p, .int .i64 n] W0 fun e w' => e = .returned (.int .i64 (longP st n).1) ∧ PortIs K w' t p (longP st n).2 ∧ Kept K w w') :=
  (long_any K t p st n W0 (hP0.less fun b hb => .inl hb) hn hl).mono fun e w' ⟨h1, h2, h3⟩ => ⟨h1, h2, hK0.trans h3⟩
 obtain ⟨hr1, hr2⟩ := longP_in st n hn
 obtain ⟨⟨k1, st1⟩, hk1⟩ : ∃ q, longP st n = q := ⟨_, rfl⟩
 rw [hk1] at C hr1 hr2 ⊢
 simp only at C hr1 hr2 ⊢
 unfold wk at C ⊢
 obtain ⟨hn1, hn2⟩ := hn
 clear h hk1 hP0 hK0 hs0 hg0
 go_enter Tryz.func120, Tryz.ntmps120
 go_wp2_with fail
 refine C.out.mono ?_
 rintro e w2 ⟨rfl, h1, h2⟩
 have H2 : Hid (PortIs K w2 t p st1 ∧ Kept K w w2) := ⟨h1, h2⟩
 clear h1 h2 C
 go_wp2_with fail
 go_ret
 exact ⟨rfl, H2.out⟩
end Go.Proofs.YtajomnfeicfdlaaGreatDoor
