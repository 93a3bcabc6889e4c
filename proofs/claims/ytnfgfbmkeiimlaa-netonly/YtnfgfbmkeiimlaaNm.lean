/- The answers that the document gives: what the law's lives answers. -/
import Derived.Test.YtnfgfbmkeiimlaaNl
namespace Go.Proofs.Ytnfgfbmkeiimlaa
open Go.Shelf Go.RowKit Go.Lib Go.Sort
set_option linter.unusedVariables false
set_option linter.unusedSimpArgs false
attribute [local go_sem ↓] Go.wp_at_zero Go.wp_at_succ
def pkA : PK := ⟨1, 2, ⟨#[97]⟩⟩
theorem live1 : refE [] 1 2 ⟨#[97]⟩ = 0 ∧ sndP [] 1 2 ⟨#[97]⟩ = [pkA] := ⟨by kernel_rfl, by kernel_rfl⟩
theorem live2 : cpyE [pkA] 0 = 0 ∧ cpyP [pkA] 0 = [pkA, pkA] := ⟨by kernel_rfl, by kernel_rfl⟩
theorem live3 : misE [pkA, pkA] 1 = 0 ∧ dlvP [pkA, pkA] 1 = [pkA] ∧ dlvK [pkA, pkA] 1 = pkA := ⟨by kernel_rfl, by kernel_rfl, by kernel_rfl⟩
theorem live4 : misE [pkA] 1 = 7 ∧ dlvP [pkA] 1 = [pkA] := ⟨by kernel_rfl, by kernel_rfl⟩
/-- A net's own box. -/
def BoxI (g : Nat) (p : Option Addr) (c : Nat) (ps : List PK) (W : World) : Prop := W.heap[g]? = some (.cells #[.slice p ps.length c] 24 (0, 0)) ∧ PsL W (.slice p ps.length c) ps
theorem BoxI.below {g : Nat} {p : Option Addr} {c : Nat} {ps : List PK} {W W' : World} (h : BoxI g p c ps W) (hb : Below W.heap.size W W') : BoxI g p c ps W' := ⟨by rw [hb.block _ (Array.getElem?_eq_some_iff.1 h.1).1]; exact h.1, h.2.below hb⟩
theorem BoxI.cell {g : Nat} {p : Option Addr} {c : Nat} {ps : List PK} {W : World} (h : BoxI g p c ps W) : W.cell? ⟨g, 0, none⟩ = some (.slice p ps.length c) := cell_of_row (k := 0) h.1 rfl
theorem BoxI.new {p : Option Addr} {c : Nat} {ps : List PK} {W V : World} (h : PsL W (.slice p ps.length c) ps) (e : W.alloc (.cells #[.slice p ps.length c] 24) = V) : BoxI W.heap.size p c ps V ∧ Below W.heap.size W V := by
  subst e
  exact ⟨⟨heap_alloc_new W _, h.below (one_below _ _)⟩, one_below _ _⟩
set_option maxRecDepth 100000 in
set_option maxHeartbeats 4000000 in
theorem lives_any (w : World) : Calls Try.prog 16 #[] w fun e w' => e = .returned (.bool true) ∧ Below w.heap.size w w' := by
  have C1 : Hid (∀ W, Calls Try.prog 8 #[.agg #[.slice none 0 0], .int .i64 1, .int .i64 2, .string ⟨#[97]⟩] W fun e w' => NetE [pkA] 0 W e w') := fun W => by
    have := Send_any (.slice none 0 0) 1 2 ⟨#[97]⟩ [] W (PsL.nil W)
    rwa [live1.1, live1.2] at this
  have C2 : Hid (∀ p c W, PsL W (.slice p 1 c) [pkA] → Calls Try.prog 14 #[.agg #[.slice p 1 c], .int .i64 0] W fun e w' => NetE [pkA, pkA] 0 W e w') := fun p c W h => by
    have := Copy_any _ 0 [pkA] W h
    rwa [live2.1, live2.2] at this
  have C3 : Hid (∀ p c W, PsL W (.slice p 2 c) [pkA, pkA] → Calls Try.prog 10 #[.agg #[.slice p 2 c], .int .i64 1] W fun e w' => NetP [pkA] ⟨1, 2, ⟨#[97]⟩⟩ 0 W e w') := fun p c W h => by
    have := Deliver_any _ 1 [pkA, pkA] W h
    rwa [live3.1, live3.2.1, live3.2.2] at this
  have C4 : Hid (∀ p c W, PsL W (.slice p 1 c) [pkA] → Calls Try.prog 12 #[.agg #[.slice p 1 c], .int .i64 1] W fun e w' => NetE [pkA] 7 W e w') := fun p c W h => by
    have := Drop_any _ 1 [pkA] W h
    rwa [live4.1, live4.2] at this
  go_enter Try.func16, Try.ntmps16
  go_wp2_with fail
  refine (C1.out _).mono ?_
  rintro e w1 ⟨p1, c1, rfl, hl1, hn1, hb1⟩
  obtain ⟨V1, hV1⟩ : ∃ V1, w1.alloc (.cells #[.slice p1 1 c1] 24) = V1 := ⟨_, rfl⟩
  obtain ⟨hx1, hbV1⟩ := BoxI.new hl1 hV1
  have v1 := hx1.cell
  simp only [List.length_cons, List.length_nil, Nat.zero_add] at v1
  have K2 := C2.out p1 c1 V1 hx1.2
  have HB1 : Hid (Below w.heap.size w V1) := hb1.trans (hbV1.mono hb1.size)
  have HX1 : Hid (BoxI w1.heap.size p1 c1 [pkA] V1) := hx1
  have hg1 : w.heap.size ≤ w1.heap.size := hb1.size
  clear hx1 hbV1 hb1 hl1 hn1 C1 C2
  go_wp2_with fail
  refine K2.mono ?_
  rintro e w2 ⟨p2, c2, rfl, hl2, hn2, hb2⟩
  obtain ⟨V2, hV2, t1, t2, t3, t4, t5, _, ts2, t6⟩ := set_box (HX1.out.below hb2).1 hl2
  have K3 := C3.out p2 c2 V2 t5
  have HB2 : Hid (Below w.heap.size w V2) := t6 _ _ (HB1.out.trans (hb2.mono HB1.out.size)) hg1
  have HX2 : Hid (BoxI w1.heap.size p2 c2 [pkA, pkA] V2) := ⟨t3, t5⟩
  simp only [List.length_cons, List.length_nil, Nat.zero_add] at t1 t2 t4 hV2
  clear K2 hb2 hl2 hn2 t3 t5 t6 HX1 HB1 v1 C3
  go_wp2_with fail
  refine K3.mono ?_
  rintro e w3 ⟨p3, c3, rfl, hl3, hn3, hb3⟩
  obtain ⟨U3, hU3⟩ : ∃ U3, w3.alloc (.cells #[.int .i64 0, .int .i64 0, .string ⟨#[]⟩] 30) = U3 := ⟨_, rfl⟩
  have hbU : Below w3.heap.size w3 U3 := by rw [← hU3]; exact one_below _ _
  have gU : U3.heap[w3.heap.size]? = some (.cells #[.int .i64 0, .int .i64 0, .string ⟨#[]⟩] 30 (0, 0)) := by rw [← hU3]; exact heap_alloc_new w3 _
  have hX3 := (HX2.out.below hb3)
  have hg3 : w1.heap.size < w3.heap.size := (Array.getElem?_eq_some_iff.1 hX3.1).1
  obtain ⟨V3, hV3, t1, t2, t3, t4, t5, to3, ts3, t6⟩ := set_box (hX3.below hbU).1 (hl3.below hbU)
  have gV : V3.heap[w3.heap.size]? = some (.cells #[.int .i64 0, .int .i64 0, .string ⟨#[]⟩] 30 (0, 0)) := by rw [to3 _ (by omega)]; exact gU
  obtain ⟨Wa, Wb, Wc, hWa, hWb, hWc, ⟨oa, ca⟩, fa, ⟨ob, cb⟩, fb, ⟨oc, cc⟩, fc, hbl, hszc, hothc, cur', hg', _, _, r0, r1, r2⟩ := set_three (k := 0) gV (by simp) (.int .i64 1) (.int .i64 2) (.string ⟨#[97]⟩)
  have hlc : PsL Wc (.slice p3 [pkA].length c3) [pkA] := t5.but (g := w3.heap.size) (fun a ha => by
    obtain ⟨q, c', e, _, _, _, _, _, hp⟩ := hl3
    simp only [Value.slice.injEq, true_and] at e
    obtain ⟨rfl, rfl⟩ := e
    obtain ⟨b, o, e, hlt, _⟩ := hp (by simp)
    rw [e] at ha
    cases ha
    show b ≠ _
    omega) hothc hszc
  have gb : Wc.heap[w1.heap.size]? = some (.cells #[.slice p3 [pkA].length c3] 24 (0, 0)) := by rw [hothc _ (by omega)]; exact t3
  have K4 := C4.out p3 c3 Wc hlc
  have HB3 : Hid (Below w.heap.size w Wc) := hbl _ _ (t6 _ _ (HB2.out.trans ((hb3.trans (hbU.mono hb3.size)).mono HB2.out.size)) hg1) (by omega)
  have HX3 : Hid (BoxI w1.heap.size p3 c3 [pkA] Wc) := ⟨gb, hlc⟩
  have v3 := HX3.out.cell
  have HG3 : Hid (∀ W, Below Wc.heap.size Wc W → W.cell? ⟨w3.heap.size, 0, none⟩ = some (.int .i64 1) ∧ W.cell? ⟨w3.heap.size, 1, none⟩ = some (.int .i64 2) ∧ W.cell? ⟨w3.heap.size, 2, none⟩ = some (.string ⟨#[97]⟩)) := fun W hb => by
    have g : W.heap[w3.heap.size]? = some (.cells cur' 30 (0, 0)) := by rw [hb.block _ (Array.getElem?_eq_some_iff.1 hg').1]; exact hg'
    exact ⟨cell_of_row g r0, cell_of_row g r1, cell_of_row g r2⟩
  simp only [List.length_cons, List.length_nil, Nat.zero_add] at t1 t2 t4 hV3 v3 hWa hWb hWc ca fa cb fb cc fc
  clear K3 hb3 hl3 hn3 t3 t5 t6 HX2 HB2 C4 gV gU hX3 hbU hbl hszc hothc r0 r1 r2 hg' hlc gb
  go_wp2_with fail
  refine K4.mono ?_
  rintro e w4 ⟨p4, c4, rfl, hl4, hn4, hb4⟩
  obtain ⟨U4, hU4⟩ : ∃ U4, w4.alloc (.cells #[.slice p4 1 c4] 24) = U4 := ⟨_, rfl⟩
  have hbU4 : Below w4.heap.size w4 U4 := by rw [← hU4]; exact one_below _ _
  have hbc : Below Wc.heap.size Wc U4 := hb4.trans (hbU4.mono hb4.size)
  obtain ⟨m0, m1, m2⟩ := HG3.out U4 hbc
  have u1 := (HX3.out.below hbc).cell
  have HB4 : Hid (Below w.heap.size w U4) := HB3.out.trans (hbc.mono HB3.out.size)
  have heq : ∀ W, (binOp .eql 30 (.agg #[.int .i64 1, .int .i64 2, .string ⟨#[97]⟩]) (.agg #[.int .i64 1, .int .i64 2, .string ⟨#[97]⟩])).run Try.prog W = .ok (.bool true) W := fun W => by rw [eql_core, eqP_self]
  simp only [List.length_cons, List.length_nil, Nat.zero_add] at u1
  clear K4 hb4 hl4 hn4 hbU4 hbc HX3 HG3 HB3 v3
  go_wp2_with fail
  go_ret
  exact ⟨rfl, HB4.out⟩
end Go.Proofs.Ytnfgfbmkeiimlaa
