/- What beside and Send answer. -/
import Derived.Test.YtnfgfbmkeiimlaaNg
namespace Go.Proofs.Ytnfgfbmkeiimlaa
open Go.Shelf Go.RowKit Go.Lib Go.Sort
set_option linter.unusedVariables false
set_option linter.unusedSimpArgs false
attribute [local go_sem ↓] Go.wp_at_zero Go.wp_at_succ
/-- New memory. -/
def NewP (base : Nat) (p : Option Addr) : Prop := ∀ a, p = some a → base ≤ a.block
theorem NewP.mono {a b : Nat} {p : Option Addr} (h : NewP b p) (hab : a ≤ b) : NewP a p := fun x hx => Nat.le_trans hab (h x hx)
theorem NewP.none (a : Nat) : NewP a none := fun x hx => by cases hx
/-- A list stays where another block changes. -/
theorem PsL.but {W W' : World} {p : Option Addr} {n c g : Nat} {ps : List PK} (h : PsL W (.slice p n c) ps) (hp : ∀ a, p = some a → a.block ≠ g) (hoth : ∀ j, j ≠ g → W'.heap[j]? = W.heap[j]?) (hsz : W.heap.size ≤ W'.heap.size) : PsL W' (.slice p n c) ps := by
  obtain ⟨q, c', e, hlc, hc, hl, hs, hn, hp'⟩ := h
  simp only [Value.slice.injEq] at e
  obtain ⟨rfl, rfl, rfl⟩ := e
  refine ⟨_, _, rfl, hlc, hc, hl, hs, hn, fun h0 => ?_⟩
  obtain ⟨b, o, rfl, hlt, hi⟩ := hp' h0
  have hb := hp _ rfl
  refine ⟨b, o, rfl, by omega, fun j hj => ?_⟩
  have hcell : ∀ k, W'.cell? ⟨b, k, none⟩ = W.cell? ⟨b, k, none⟩ := fun k => by simp only [World.cell?, hoth b hb]
  rw [hcell, hcell, hcell]
  exact hi j hj
/-- A net that is answered. -/
def NetR (ps : List PK) (w : World) (e : Ending) (w' : World) : Prop := ∃ p c, e = .returned (.agg #[.slice p ps.length c]) ∧ PsL w' (.slice p ps.length c) ps ∧ NewP w.heap.size p ∧ Below w.heap.size w w'
/-- A net that is answered with a number. -/
def NetE (ps : List PK) (er : Int) (w : World) (e : Ending) (w' : World) : Prop := ∃ p c, e = .returned (.tuple #[.agg #[.slice p ps.length c], .int .i64 er]) ∧ PsL w' (.slice p ps.length c) ps ∧ NewP w.heap.size p ∧ Below w.heap.size w w'
theorem OwnP.shape {base : Nat} {W : World} {u : Value} {fs : List PK} (h : OwnP base W u fs) : ∃ p c, u = .slice p fs.length c ∧ NewP base p := by
  obtain ⟨hl, ⟨rfl, hn⟩ | ⟨g, cap, cur, rfl, h1, hg, r⟩⟩ := h
  · exact ⟨none, 0, by rw [hn], NewP.none _⟩
  · exact ⟨_, _, rfl, fun a ha => by cases ha; exact h1⟩
theorem netOf_net (v : Value) (ls : List (Value × List PK)) (w : World) (h : LsL w v ls) (hm : (allP ls).length * 32 ≤ 140737488355328) : Calls Try.prog 23 #[v] w fun e w' => NetR (allP ls) w e w' :=
  (netOf_any v ls w h hm).mono fun e w' ⟨u, he, ho, hb⟩ => by
    obtain ⟨p, c, rfl, hp⟩ := ho.shape
    exact ⟨p, c, he, ho.packs hm (allP_small h), hp, hb⟩
/-- One list that lies in a block. -/
theorem one_list {w : World} {v : Value} {ps : List PK} (h : PsL w v ps) {t : TypeId} {V : World} (e : w.alloc (.cells #[v] t) = V) : LsL V (.slice (some ⟨w.heap.size, 0, none⟩) 1 1) [(v, ps)] := by
  subst e
  refine ⟨_, 0, 1, rfl, by simp, by simp, fun j hj => ?_⟩
  match j, hj with
  | 0, _ => exact ⟨cell_box _ _ _ _ _ rfl, h.below (one_below _ _)⟩
theorem two_lists {w : World} {v v' : Value} {ps ps' : List PK} (h : PsL w v ps) (h' : PsL w v' ps') {t : TypeId} {V : World} (e : w.alloc (.cells #[v, v'] t) = V) : LsL V (.slice (some ⟨w.heap.size, 0, none⟩) 2 2) [(v, ps), (v', ps')] := by
  subst e
  refine ⟨_, 0, 2, rfl, by simp, by simp, fun j hj => ?_⟩
  match j, hj with
  | 0, _ => exact ⟨cell_box _ _ _ _ _ rfl, h.below (one_below _ _)⟩
  | 1, _ => exact ⟨cell_box _ _ _ _ _ rfl, h'.below (one_below _ _)⟩
def besP (er : Int) (ps : List PK) : List PK := if er = 6 then [] else ps
/-- A net that is stored into its box. -/
theorem set_box {W : World} {g : Nat} {old u : Value} {ps : List PK} (k0 : W.heap[g]? = some (.cells #[old] 24 (0, 0))) (h : PsL W u ps) :
    ∃ Wz, W.setCell ⟨g, 0, none⟩ u = Wz ∧ W.cell? ⟨g, 0, none⟩ = some old ∧ W.frozen? ⟨g, 0, none⟩ = false ∧ Wz.heap[g]? = some (.cells #[u] 24 (0, 0)) ∧ Wz.cell? ⟨g, 0, none⟩ = some u ∧ PsL Wz u ps ∧ (∀ j, j ≠ g → Wz.heap[j]? = W.heap[j]?) ∧ W.heap.size ≤ Wz.heap.size ∧ ∀ B w0, Below B w0 W → B ≤ g → Below B w0 Wz := by
  obtain ⟨e1, e2, e3, e4⟩ := set_row k0 (k := 0) (by simp) u
  have e5 : (#[old] : Array Value).setIfInBounds 0 u = #[u] := rfl
  rw [e5] at e3
  have hoth : ∀ j, j ≠ g → (W.setCell ⟨g, 0, none⟩ u).heap[j]? = W.heap[j]? := fun j hj => heap_setCell_other _ _ j _ hj
  refine ⟨_, rfl, cell_of_row k0 rfl, e2, e3, cell_of_row e3 rfl, ?_, hoth, by simp [World.setCell], e4⟩
  obtain ⟨p, c, rfl, hlc, hc, hl, hs, hn, hp⟩ := h
  refine ⟨p, c, rfl, hlc, hc, hl, hs, hn, fun h0 => ?_⟩
  obtain ⟨b, o, rfl, hlt, hi⟩ := hp h0
  have hbg : b ≠ g := by
    rintro rfl
    obtain ⟨c0, c1, _⟩ := hi 0 h0
    simp only [World.cell?, k0] at c1
    have : (#[old] : Array Value)[o + 0 * 3 + 1]? = none := Array.getElem?_eq_none (by simp)
    rw [this] at c1; cases c1
  refine ⟨b, o, rfl, Nat.lt_of_lt_of_le hlt (by simp [World.setCell]), fun j hj => ?_⟩
  have hcell : ∀ k, (W.setCell ⟨g, 0, none⟩ (.slice (some ⟨b, o, none⟩) ps.length c)).cell? ⟨b, k, none⟩ = W.cell? ⟨b, k, none⟩ := fun k => by
    simp only [World.cell?, hoth b hbg]
  rw [hcell, hcell, hcell]
  exact hi j hj
set_option maxRecDepth 100000 in
set_option maxHeartbeats 2000000 in
theorem beside_any (er : Int) (v : Value) (ps : List PK) (w : World) (h : PsL w v ps) :
    Calls Try.prog 22 #[.int .i64 er, .agg #[v]] w fun e w' => NetR (besP er ps) w e w' := by
  unfold besP
  have HL : Hid (PsL w v ps) := h
  have hmany := h.many
  have CN : Hid (∀ b V, LsL V (.slice (some ⟨b, 0, none⟩) 1 1) [(v, ps)] → Calls Try.prog 23 #[.slice (some ⟨b, 0, none⟩) 1 1] V fun e w' => NetR ps V e w') := fun b V hl => by
    have := netOf_net _ [(v, ps)] V hl (by simpa [allP] using hmany)
    simpa [allP] using this
  obtain ⟨W0, hW0⟩ : ∃ W0, (w.alloc (.cells #[v] 24)).alloc (.cells #[.slice none 0 0] 24) = W0 := ⟨_, rfl⟩
  have hb0 : Below w.heap.size w W0 := by rw [← hW0]; exact two_below _ _ _
  have hs0 : W0.heap.size = w.heap.size + 2 := by rw [← hW0]; simp
  have g0 : W0.heap[w.heap.size]? = some (.cells #[v] 24 (0, 0)) := by rw [← hW0, heap_alloc_old _ _ (by simp)]; exact heap_alloc_new w _
  have g1 : W0.heap[w.heap.size + 1]? = some (.cells #[.slice none 0 0] 24 (0, 0)) := by
    rw [← hW0]
    have := heap_alloc_new (w.alloc (.cells #[v] 24)) (.cells #[.slice none 0 0] 24)
    simpa using this
  have x0 := cell_of_row (k := 0) g0 rfl
  obtain ⟨p, c, rfl, _⟩ := h
  by_cases e6 : er = 6
  · subst e6
    rw [if_pos rfl]
    obtain ⟨Wz, hWz, z1, z2, z3, z4, z5, _, _, z6⟩ := set_box g1 (PsL.nil W0)
    have HB : Hid (Below w.heap.size w Wz) := z6 _ _ hb0 (by omega)
    have HP : Hid (PsL Wz (.slice none 0 0) []) := z5
    clear z3 z5 z6 g0 g1 hs0 hb0
    go_enter Try.func22, Try.ntmps22
    go_wp2_with fail
    exact bodyPost_ret (v := .agg #[.slice none 0 0]) (by simp [results, Try.results22, go_sem, z4]) rfl ⟨none, 0, rfl, HP.out, NewP.none _, HB.out⟩
  · rw [if_neg e6]
    have e6' : (er == 6) = false := beq_eq_false_iff_ne.2 e6
    obtain ⟨V1, hV1⟩ : ∃ V1, W0.alloc (.cells #[.slice p ps.length c] 22) = V1 := ⟨_, rfl⟩
    have CV := CN.out W0.heap.size V1 (one_list (HL.out.below hb0) hV1)
    have HV : Hid (Below W0.heap.size W0 V1) := by rw [← hV1]; exact one_below _ _
    have HG : Hid (∀ W, Below W0.heap.size W0 W → W.heap[w.heap.size + 1]? = some (.cells #[.slice none 0 0] 24 (0, 0))) := fun W hb => by rw [hb.block _ (by omega)]; exact g1
    have HB0 : Hid (Below w.heap.size w W0) := hb0
    clear e6 g0 g1 hs0 hb0
    go_enter Try.func22, Try.ntmps22
    go_wp2_with fail
    refine CV.mono ?_
    rintro e w1 ⟨p1, c1, rfl, hl1, hn1, hb1⟩
    have hB1 : Below W0.heap.size W0 w1 := HV.out.trans (hb1.mono HV.out.size)
    obtain ⟨Wz, hWz, z1, z2, z3, z4, z5, _, _, z6⟩ := set_box (HG.out w1 hB1) hl1
    have HB : Hid (Below w.heap.size w Wz) := z6 _ _ (HB0.out.trans (hB1.mono HB0.out.size)) (by omega)
    have HP : Hid (PsL Wz (.slice p1 ps.length c1) ps) := z5
    have HN : Hid (NewP w.heap.size p1) := hn1.mono (Nat.le_trans HB0.out.size HV.out.size)
    clear CV hb1 hB1 hl1 z3 z5 z6
    go_wp2_with fail
    exact bodyPost_ret (v := .agg #[.slice p1 ps.length c1]) (by simp [results, Try.results22, go_sem, z4]) rfl ⟨p1, c1, rfl, HP.out, HN.out, HB.out⟩
end Go.Proofs.Ytnfgfbmkeiimlaa
