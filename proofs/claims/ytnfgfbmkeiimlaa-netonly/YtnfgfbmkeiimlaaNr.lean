/- The reference: what Own and Send answer. -/
import Derived.Test.YtnfgfbmkeiimlaaNm
import Derived.Deep.RegionLaw
namespace Go.Proofs.Ytnfgfbmkeiimlaa
open Go.Shelf Go.RowKit Go.Lib Go.Sort
set_option linter.unusedVariables false
set_option linter.unusedSimpArgs false
attribute [local go_sem ↓] Go.wp_at_zero Go.wp_at_succ
theorem step_append22 {ops : Array Oper} {o : Oper} {a : Act} {K : Act → World → Prop} {Q : Exit → Act → World → Prop} {E : Prop} (W : World) (hgd : o.guard = none) (s x : Operand)
    (ho : o.op = .call { callee := .builtin .append, args := #[s, x], argTypes := #[22, 22] }) (vs vx v' : Value) (W' : World) (hs : a.eval s = vs) (hx : a.eval x = vx)
    (hrun : (Builtin.append_ #[22, 22] o.type #[vs, vx]).run Try.prog W = .ok v' W') (h : K (a.put o.dst v') W') :
    if Region.wanted o (yielded ops a.tmps) = true then Oper.wp Try.prog o a W K Q else E := by
  have hw : Region.wanted o (yielded ops a.tmps) = true := by simp [Region.wanted, hgd]
  rw [if_pos hw]
  unfold Oper.wp execOp
  simp only [ho, resolve, invoke, builtin, Sem.run_bind, Sem.run_pure, Result.andThen_ok, List.map_toArray, List.map_cons, List.map_nil, hs, hx, hrun]
  exact h
/-- An append onto packets of one's own. -/
theorem append_run {W : World} {base : Nat} {v vx : Value} {fs gs : List PK} (hown : OwnP base W v fs) (hbase : base ≤ W.heap.size) (hx : PsL W vx gs) (hby : (fs.length + gs.length) * 32 ≤ 140737488355328) (ty : TypeId) :
    ∃ v' W', (Builtin.append_ #[22, 22] ty #[v, vx]).run Try.prog W = .ok v' W' ∧ OwnP base W' v' (fs ++ gs) ∧ (∀ B w0, Below B w0 W → B ≤ base → Below B w0 W') ∧ (∀ j, j < base → W'.heap[j]? = W.heap[j]?) ∧ W.heap.size ≤ W'.heap.size := by
  obtain ⟨i0, hi0, hz0, hz1, hz2⟩ := info30
  obtain ⟨p, c, rfl, hlc, hcc, hl, hs, hn, hp⟩ := hx
  have ho := hown
  unfold OwnP at ho
  cases p with
  | none =>
    have h0 := hn rfl
    subst h0
    have hg : gs = [] := List.eq_nil_of_length_eq_zero (by omega)
    subst hg
    exact ⟨v, W, run_append_owned_none (P := Try.prog) (w := W) base 22 ty 30 i0 3 Try.underlying22 hi0 v _ _ ho, by rw [List.append_nil]; exact hown, fun _ _ h _ => h, fun _ _ => rfl, Nat.le_refl _⟩
  | some ad =>
    have HC : ∀ j x, (flat gs)[j]? = some x → W.cell? (ad.add j) = some x := fun j x hx => by
      by_cases h0 : 0 < gs.length
      · obtain ⟨b', o', e, hlt', hc⟩ := hp h0
        cases e
        exact flat_add hc j x hx
      · rw [List.eq_nil_of_length_eq_zero (by omega : gs.length = 0)] at hx; simp [flat] at hx
    obtain ⟨v', W', e, h2, h3, _⟩ := run_append_own_at (P := Try.prog) W base 22 ty 30 i0 _ 3 32 Try.underlying22 hi0 hz0 hz1 hz2 rfl (by omega) v fs.length (flat fs) ho ad gs.length c (flat gs) (flat_length gs) HC (flat_one gs) (by unfold maxLen; omega) hby hbase
    refine ⟨v', W', e, by unfold OwnP; rw [flat_append, List.length_append]; exact h2, fun B w0 hb hB => ?_, fun j hj => ?_, h3.size⟩
    · exact Below.grown hb h3 (Nat.le_trans hB hbase) (fun j hj => by have := (ho.lt _ hj).1; omega)
    · exact h3.block j (by omega) (fun e => by have := (ho.lt _ e.symm).1; omega)
theorem own_mt (w : World) : OwnP w.heap.size (w.alloc (.cells #[] 30)) (.slice (some ⟨w.heap.size, 0, none⟩) 0 0) [] := ⟨rfl, .inr ⟨w.heap.size, 0, #[], rfl, Nat.le_refl _, heap_alloc_new w _, Nat.le_refl _, Nat.zero_le _, rfl, rfl⟩⟩
/-- A net of its own memory that is answered. -/
def NetO (ps : List PK) (w : World) (e : Ending) (w' : World) : Prop := ∃ p c, e = .returned (.agg #[.slice p ps.length c]) ∧ OwnP w.heap.size w' (.slice p ps.length c) ps ∧ Below w.heap.size w w'
theorem OwnP.but {base g : Nat} {W W' : World} {u : Value} {fs : List PK} (h : OwnP base W u fs) (hg : g < base) (hoth : ∀ j, j ≠ g → W'.heap[j]? = W.heap[j]?) : OwnP base W' u fs := by
  obtain ⟨hl, ⟨rfl, hn⟩ | ⟨b, cap, cur, rfl, h1, hb, r⟩⟩ := h
  · exact ⟨hl, .inl ⟨rfl, hn⟩⟩
  · exact ⟨hl, .inr ⟨b, cap, cur, rfl, h1, by rw [hoth b (by omega)]; exact hb, r⟩⟩
theorem OwnP.mono {a b : Nat} {W : World} {u : Value} {fs : List PK} (h : OwnP b W u fs) (hab : a ≤ b) : OwnP a W u fs := by
  obtain ⟨hl, ⟨rfl, hn⟩ | ⟨g, cap, cur, rfl, h1, r⟩⟩ := h
  · exact ⟨hl, .inl ⟨rfl, hn⟩⟩
  · exact ⟨hl, .inr ⟨g, cap, cur, rfl, by omega, r⟩⟩
set_option maxRecDepth 100000 in
set_option maxHeartbeats 4000000 in
theorem refOwn_any (v : Value) (ps : List PK) (w : World) (h : PsL w v ps) : Calls Try.prog 7 #[.agg #[v]] w fun e w' => NetO ps w e w' := by
  obtain ⟨W0, hW0, hb0, hs0, hx⟩ := boxes2 w v
  have HX : Hid _ := hx
  have HB0 : Hid (Below w.heap.size w W0) := hb0
  have x0 := (hx W0 (Below.refl _ _)).1
  have hmany := h.many
  have hsm := h.small
  obtain ⟨V, hV⟩ : ∃ V, W0.alloc (.cells #[] 30) = V := ⟨_, rfl⟩
  have hbV : Below W0.heap.size W0 V := by rw [← hV]; exact one_below _ _
  have hown : OwnP W0.heap.size V (.slice (some ⟨W0.heap.size, 0, none⟩) 0 0) [] := by rw [← hV]; exact own_mt W0
  obtain ⟨v', W', e, ho', hup, hlow, hsz⟩ := append_run hown hbV.size ((h.below hb0).below hbV) (by simpa using hmany) 22
  rw [List.nil_append] at ho'
  obtain ⟨p', c', rfl, hnp⟩ := ho'.shape
  have hbW : Below W0.heap.size W0 W' := hup _ _ hbV (Nat.le_refl _)
  obtain ⟨Wz, hWz, z1, z2, z3, z4, z5, zo, zs, z6⟩ := set_box (HX.out W' hbW).2 (ho'.packs hmany hsm)
  have HF : Hid (OwnP w.heap.size Wz (.slice p' ps.length c') ps ∧ Below w.heap.size w Wz) := ⟨(ho'.but (g := w.heap.size + 1) (by omega) zo).mono (by omega), z6 _ _ (hb0.trans (hbW.mono hb0.size)) (by omega)⟩
  have x1 := HX.out V hbV
  obtain ⟨x1, _⟩ := x1
  obtain ⟨p, c, rfl, _⟩ := h
  clear hx hb0 hs0 hbV hown ho' hup hlow hsz hnp hbW z3 z5 z6 zo zs hmany hsm
  go_enter Try.func7, Try.ntmps7
  go_wp2_with (at_builtin; refine Lib.wpList_append_run _ rfl _ _ _ _ rfl _ _ rfl rfl _ _ e ?_)
  exact bodyPost_ret (v := .agg #[.slice p' ps.length c']) (by simp [results, Try.results7, go_sem, z4]) rfl ⟨p', c', rfl, HF.out⟩
end Go.Proofs.Ytnfgfbmkeiimlaa
