/- What readEscape answers. -/
import Derived.Test.YtnmmojhbcnlboaaGreatDoorLb
import Derived.Maps.OwnOps
import Derived.Maps.OwnSet
import Derived.Carry
import Derived.Deep.RegionHeld3
namespace Go.Proofs.YtnmmojhbcnlboaaGreatDoor
open Go.RowKit Go.Lib Go.Maps
set_option linter.unusedVariables false

theorem keyed21 : Keyed Tryz.prog 21 := int_keyed Tryz.underlying21
theorem zero21 (w : World) : (zeroValue 21).run Tryz.prog w = .ok (.int .i32 0) w := by kernel_rfl
def escD : DataW Unit := ((((DataW.map []).put (.int .i32 34) (.lit (.int .i32 34))).put (.int .i32 92) (.lit (.int .i32 92))).put (.int .i32 110) (.lit (.int .i32 10))).put (.int .i32 116) (.lit (.int .i32 9))
def Esc (w : World) (b : Nat) : Prop := w.ownsMap Tryz.prog 21 (plainElem (H := Unit) Tryz.prog 21) b 4 escD

theorem below_map {w w1 w2 : World} (h : Below w.heap.size w w1) (hg : w1.grownBy w2 (some w.heap.size)) : Below w.heap.size w w2 :=
  ⟨hg.os.trans h.os, hg.tape.trans h.tape, hg.output.trans h.output, Nat.le_trans h.size hg.size, fun i hi => (hg.block i (Nat.lt_of_lt_of_le hi h.size) (by simp; omega)).trans (h.block i hi)⟩
set_option maxRecDepth 100000 in
theorem escapes_any (w : World) : Calls Tryz.prog 99 #[] w fun e w' => e = .returned (.map (some w.heap.size)) ∧ Esc w' w.heap.size ∧ Below w.heap.size w w' := by
  have hmm := @run_makeMap Tryz.prog
  have h0 := World.ownsMap_made w Tryz.prog 21 (plainElem (H := Unit) Tryz.prog 21)
  have b0 : Below w.heap.size w (w.alloc (.map #[] 0)) := (Below.refl _ _).alloc (Nat.le_refl _) _
  obtain ⟨w1, r1, h1, g1⟩ := h0.update keyed21 Tryz.underlying140 (by unfold maxLen; omega) (key := .int .i32 34) (val := .int .i32 34) (keyOf_int_mk Tryz.underlying21 (by decide)) (plainElem_int Tryz.underlying21 (by decide))
  obtain ⟨w2, r2, h2, g2⟩ := h1.update keyed21 Tryz.underlying140 (by unfold maxLen; omega) (key := .int .i32 92) (val := .int .i32 92) (keyOf_int_mk Tryz.underlying21 (by decide)) (plainElem_int Tryz.underlying21 (by decide))
  obtain ⟨w3, r3, h3, g3⟩ := h2.update keyed21 Tryz.underlying140 (by unfold maxLen; omega) (key := .int .i32 110) (val := .int .i32 10) (keyOf_int_mk Tryz.underlying21 (by decide)) (plainElem_int Tryz.underlying21 (by decide))
  obtain ⟨w4, r4, h4, g4⟩ := h3.update keyed21 Tryz.underlying140 (by unfold maxLen; omega) (key := .int .i32 116) (val := .int .i32 9) (keyOf_int_mk Tryz.underlying21 (by decide)) (plainElem_int Tryz.underlying21 (by decide))
  have H4 : Hid (Esc w4 w.heap.size) := h4
  have B4 : Hid (Below w.heap.size w w4) := below_map (below_map (below_map (below_map b0 g1) g2) g3) g4
  clear h0 h1 h2 h3 h4 g1 g2 g3 g4 b0
  go_enter Tryz.func99, Tryz.ntmps99
  go_wp2
  go_ret
  exact ⟨rfl, H4.out, B4.out⟩

def escR (c : Int) : Option Int := if c = 34 then some 34 else if c = 92 then some 92 else if c = 110 then some 10 else if c = 116 then some 9 else none
theorem lit_ne {a b : Int} (h : a ≠ b) : Lit.int .i32 a ≠ Lit.int .i32 b := fun e => h (by injection e)
theorem esc_look (c : Int) (hc : -2147483648 ≤ c ∧ c ≤ 2147483647) (w : World) (b : Nat) (h : Esc w b) :
    (Instr.lookup 140 (.map (some b)) (.int .i32 c) true).run Tryz.prog w = .ok (.tuple #[.int .i32 ((escR c).getD 0), .bool (escR c).isSome]) w := by
  have hw : (Lit.int .i32 c).wf = true := by simp only [Lit.wf, Bool.and_eq_true, decide_eq_true_eq]; exact hc
  obtain ⟨v, ps, hr, hv⟩ := World.ownsMap.look_ok h keyed21 Tryz.underlying140 (zero21 w) (plainElem_int Tryz.underlying21 (by decide)) (keyOf_int_mk Tryz.underlying21 hw)
  obtain ⟨a, rfl, ha, _⟩ := plainElem_int_inv Tryz.underlying21 hv
  have ha' : escD.atKey (.int .i32 c) (.lit (.int .i32 0)) = .lit (.int .i32 a) := congrArg Prod.fst ha
  rw [hr]
  have i0 : IsMap (DataW.map [] : DataW Unit) := isMap_empty
  have i1 := i0.put (.int .i32 34) (.lit (.int .i32 34))
  have i2 := i1.put (.int .i32 92) (.lit (.int .i32 92))
  have i3 := i2.put (.int .i32 110) (.lit (.int .i32 10))
  have kl : ∀ n : Int, WideAt.IsKeyLit (.int .i32 n) := fun n => by simp [WideAt.IsKeyLit]
  have key : a = (escR c).getD 0 ∧ has escD (.int .i32 c) = (escR c).isSome := by
    unfold escD at ha' ⊢
    by_cases h116 : c = 116
    · subst h116
      rw [atKey_put_same i3 (kl _)] at ha'
      rw [has_put_same i3 (kl _)]
      injection ha' with e; injection e with _ e; subst e; exact ⟨rfl, rfl⟩
    rw [atKey_put_other (lit_ne h116)] at ha'
    rw [has_put_other (lit_ne h116)]
    by_cases h110 : c = 110
    · subst h110
      rw [atKey_put_same i2 (kl _)] at ha'
      rw [has_put_same i2 (kl _)]
      injection ha' with e; injection e with _ e; subst e; exact ⟨rfl, rfl⟩
    rw [atKey_put_other (lit_ne h110)] at ha'
    rw [has_put_other (lit_ne h110)]
    by_cases h92 : c = 92
    · subst h92
      rw [atKey_put_same i1 (kl _)] at ha'
      rw [has_put_same i1 (kl _)]
      injection ha' with e; injection e with _ e; subst e; exact ⟨rfl, rfl⟩
    rw [atKey_put_other (lit_ne h92)] at ha'
    rw [has_put_other (lit_ne h92)]
    by_cases h34 : c = 34
    · subst h34
      rw [atKey_put_same i0 (kl _)] at ha'
      rw [has_put_same i0 (kl _)]
      injection ha' with e; injection e with _ e; subst e; exact ⟨rfl, rfl⟩
    rw [atKey_put_other (lit_ne h34)] at ha'
    rw [has_put_other (lit_ne h34)]
    have : escR c = none := by simp [escR, h34, h92, h110, h116]
    rw [this]
    refine ⟨?_, rfl⟩
    have e : (DataW.map [] : DataW Unit).atKey (.int .i32 c) (.lit (.int .i32 0)) = .lit (.int .i32 0) := rfl
    rw [e] at ha'
    simp only [DataW.lit.injEq, Lit.int.injEq, true_and] at ha'
    exact ha'.symm
  rw [key.1, key.2]

set_option maxHeartbeats 2000000 in
set_option maxRecDepth 100000 in
theorem readEscape_any (b c at0 : Nat) (ls : List Let) (w : World) (hl : LetsAt w b ls) (hb : b < w.heap.size) (hn : ls.length ≤ 2048) (hr : ∀ x ∈ ls, -2147483648 ≤ x.1 ∧ x.1 ≤ 2147483647) (ha : at0 ≤ ls.length) :
    Calls Tryz.prog 79 #[.slice (some ⟨b, 0, none⟩) ls.length c, .int .i64 at0] w fun e w' => e = .returned (escV at0 (escL (ls.drop at0))) ∧ Below w.heap.size w w' := by
  by_cases hlt : at0 < ls.length
  · have hz0 : (0 : Int) ≤ (at0 : Int) := by omega
    have hz1 : ¬ (ls.length : Int) ≤ (at0 : Int) := by omega
    have hz2 : (at0 : Int) < (ls.length : Int) := by omega
    obtain ⟨x0, x1⟩ := hl at0 hlt
    have zr := hr _ (List.getElem_mem hlt)
    have HH := readHex_any b c (at0 + 1) ls w hl hn hr (by omega)
    rw [drop_at ls at0 hlt]
    obtain ⟨⟨c0, c1⟩, hc⟩ : ∃ v, ls[at0] = v := ⟨_, rfl⟩
    rw [hc] at x0 x1 zr ⊢
    by_cases h117 : c0 = 117
    · subst h117
      have e : escV at0 (escL ((117, c1) :: ls.drop (at0 + 1))) = escV (at0 + 1) (hexEsc (ls.drop (at0 + 1))) := by
        simp only [escL, if_true]
        cases hexEsc (ls.drop (at0 + 1)) with
        | none => rfl
        | some p => simp [escV]; omega
      rw [e]
      rw [show (((at0 + 1 : Nat)) : Int) = (at0 : Int) + 1 by omega] at HH
      obtain ⟨r1, r2, r3, hans⟩ : ∃ r n t, escV (at0 + 1) (hexEsc (ls.drop (at0 + 1))) = .tuple #[.int .i32 r, .int .i64 n, .bool t] := by
        cases hexEsc (ls.drop (at0 + 1)) with
        | none => exact ⟨_, _, _, rfl⟩
        | some p => exact ⟨_, _, _, rfl⟩
      rw [hans] at HH ⊢
      have H1 : Hid (Calls Tryz.prog 98 #[.slice (some ⟨b, 0, none⟩) ls.length c, .int .i64 ((at0 : Int) + 1)] w fun e w' => e = .returned (.tuple #[.int .i32 r1, .int .i64 r2, .bool r3]) ∧ w' = w) := HH
      clear HH hans e hl hr hc x1
      go_enter Tryz.func79, Tryz.ntmps79
      go_wp2_with fail
      refine H1.out.mono ?_
      rintro e w' ⟨rfl, rfl⟩
      go_wp2
      go_ret3
      exact ⟨rfl, Below.refl _ _⟩
    · have hne : (c0 == 117) = false := beq_eq_false_iff_ne.2 h117
      have e : escL ((c0, c1) :: ls.drop (at0 + 1)) = (escR c0).map (fun r => (r, 1)) := by
        simp only [escL, if_neg h117, escR]
        split <;> (try rfl)
        split <;> (try rfl)
        split <;> (try rfl)
        split <;> rfl
      rw [e]
      have HE : Hid (∀ W B, Esc W B → (Instr.lookup 140 (.map (some B)) (.int .i32 c0) true).run Tryz.prog W = .ok (.tuple #[.int .i32 ((escR c0).getD 0), .bool (escR c0).isSome]) W) := fun W B h => esc_look c0 zr W B h
      have x0' : ∀ W, Below w.heap.size w W → W.cell? ⟨b, at0 * 2, none⟩ = some (.int .i32 c0) := fun W h => by rw [h.cell (p := ⟨b, _, none⟩) hb]; exact x0
      have HX : Hid (∀ W, Below w.heap.size w W → W.cell? ⟨b, at0 * 2, none⟩ = some (.int .i32 c0)) := x0'
      clear HH e hl hr hc x1 x0'
      have E66 : Hid (∀ W, Calls Tryz.prog 99 #[] W fun e w' => e = .returned (.map (some W.heap.size)) ∧ Esc w' W.heap.size ∧ Below W.heap.size W w') := escapes_any
      have xd : w.drew.cell? ⟨b, at0 * 2, none⟩ = some (.int .i32 c0) := x0
      cases hE : escR c0 with
      | none =>
        rw [hE] at HE
        clear hE
        go_enter Tryz.func79, Tryz.ntmps79
        go_wp2_with fail
        go_region_held3 (fun w' => w'.cell? ⟨b, at0 * 2, none⟩ = some (.int .i32 c0)) (first | (rw [hBa.cell (by simpa using hb)]; assumption) | go_keep)
          ((first | (go_at_call 99; refine (E66.out _).mono ?_; rintro e wa ⟨rfl, hEs, hBa⟩; have hlk : (Instr.lookup 140 (.map (some w.heap.size)) (.int .i32 c0) true).run Tryz.prog wa = .ok (.tuple #[.int .i32 0, .bool false]) wa := HE.out _ _ hEs)))
        go_wp2
        go_ret3
        exact ⟨rfl, (Below.refl _ w).drew.trans hBa⟩
      | some r =>
        rw [hE] at HE
        clear hE
        go_enter Tryz.func79, Tryz.ntmps79
        go_wp2_with fail
        go_region_held3 (fun w' => w'.cell? ⟨b, at0 * 2, none⟩ = some (.int .i32 c0)) (first | (rw [hBa.cell (by simpa using hb)]; assumption) | go_keep)
          ((first | (go_at_call 99; refine (E66.out _).mono ?_; rintro e wa ⟨rfl, hEs, hBa⟩; have hlk : (Instr.lookup 140 (.map (some w.heap.size)) (.int .i32 c0) true).run Tryz.prog wa = .ok (.tuple #[.int .i32 r, .bool true]) wa := HE.out _ _ hEs)))
        go_wp2
        go_ret3
        exact ⟨by simp [escV], (Below.refl _ w).drew.trans hBa⟩
  · have hz1 : (ls.length : Int) ≤ (at0 : Int) := by omega
    rw [List.drop_of_length_le (by omega)]
    clear hl hr
    go_enter Tryz.func79, Tryz.ntmps79
    go_wp2
    go_ret3
    exact ⟨rfl, Below.refl _ _⟩
end Go.Proofs.YtnmmojhbcnlboaaGreatDoor
