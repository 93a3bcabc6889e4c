/- A net that moves: what lies in memory. -/
import Derived.Test.YtnfgfbmkeiimlaaNw
namespace Go.Proofs.Ytnfgfbmkeiimlaa
open Go.Shelf Go.RowKit Go.Lib Go.Sort
set_option linter.unusedVariables false
set_option linter.unusedSimpArgs false
attribute [local go_sem ↓] Go.wp_at_zero Go.wp_at_succ
/-- A list is no matter to a box that changes. -/
theorem PsL.box {W W' : World} {p : Option Addr} {n c g : Nat} {old : Value} {ps : List PK} (h : PsL W (.slice p n c) ps) (k0 : W.heap[g]? = some (.cells #[old] 24 (0, 0))) (hoth : ∀ j, j ≠ g → W'.heap[j]? = W.heap[j]?) (hsz : W.heap.size ≤ W'.heap.size) : PsL W' (.slice p n c) ps := by
  obtain ⟨q, c', e, hlc, hc, hl, hs, hn, hp'⟩ := h
  simp only [Value.slice.injEq] at e
  obtain ⟨rfl, rfl, rfl⟩ := e
  refine ⟨_, _, rfl, hlc, hc, hl, hs, hn, fun h0 => ?_⟩
  obtain ⟨b, o, rfl, hlt, hi⟩ := hp' h0
  have hb : b ≠ g := by
    rintro rfl
    obtain ⟨c0, c1, _⟩ := hi 0 h0
    simp only [World.cell?, k0] at c1
    have : (#[old] : Array Value)[o + 0 * 3 + 1]? = none := Array.getElem?_eq_none (by simp)
    rw [this] at c1; cases c1
  refine ⟨b, o, rfl, by omega, fun j hj => ?_⟩
  have hcell : ∀ k, W'.cell? ⟨b, k, none⟩ = W.cell? ⟨b, k, none⟩ := fun k => by simp only [World.cell?, hoth b hb]
  rw [hcell, hcell, hcell]
  exact hi j hj
/-- Other memory than that of what was sent. -/
def Sep (u : Value) (p : Option Addr) (xs : List PK) : Prop := 0 < xs.length → ∀ a, p = some a → u.ownBlock ≠ some a.block
theorem PsL.grown {W W' : World} {p : Option Addr} {n c : Nat} {ps : List PK} {u : Value} (h : PsL W (.slice p n c) ps) (hs' : Sep u p ps) (hg : W.grownBy W' u.ownBlock) : PsL W' (.slice p n c) ps := by
  obtain ⟨q, c', e, hlc, hc, hl, hs, hn, hp'⟩ := h
  simp only [Value.slice.injEq] at e
  obtain ⟨rfl, rfl, rfl⟩ := e
  refine ⟨_, _, rfl, hlc, hc, hl, hs, hn, fun h0 => ?_⟩
  obtain ⟨b, o, rfl, hlt, hi⟩ := hp' h0
  have hne := hs' h0 _ rfl
  have hblk := hg.block b hlt (fun e => hne e.symm)
  refine ⟨b, o, rfl, Nat.lt_of_lt_of_le hlt hg.size, fun j hj => ?_⟩
  have hcell : ∀ k, W'.cell? ⟨b, k, none⟩ = W.cell? ⟨b, k, none⟩ := fun k => by simp only [World.cell?, hblk]
  rw [hcell, hcell, hcell]
  exact hi j hj
def OnlyJ (w : World) (gN : Nat) (pn : Option Addr) (cn : Nat) (ns : List PK) (u : Value) (ss : List PK) (W : World) : Prop :=
  Below w.heap.size w W ∧ w.heap.size ≤ gN ∧ W.heap[gN]? = some (.cells #[.slice pn ns.length cn] 24 (0, 0)) ∧ PsL W (.slice pn ns.length cn) ns ∧ OwnP (gN + 1) W u ss ∧ Sep u pn ns
def OnlyX (w : World) (gN gx : Nat) (pn : Option Addr) (cn : Nat) (ns : List PK) (px : Option Addr) (cx : Nat) (xs : List PK) (u : Value) (ss : List PK) (W : World) : Prop :=
  Below w.heap.size w W ∧ w.heap.size ≤ gN ∧ gN < gx ∧ W.heap[gN]? = some (.cells #[.slice pn ns.length cn] 24 (0, 0)) ∧ W.heap[gx]? = some (.cells #[.slice px xs.length cx] 24 (0, 0)) ∧ PsL W (.slice pn ns.length cn) ns ∧ PsL W (.slice px xs.length cx) xs ∧ OwnP (gN + 1) W u ss ∧ Sep u pn ns ∧ Sep u px xs
theorem OnlyJ.below {w W W' : World} {gN : Nat} {pn : Option Addr} {cn : Nat} {ns : List PK} {u : Value} {ss : List PK} (h : OnlyJ w gN pn cn ns u ss W) (hb : Below W.heap.size W W') : OnlyJ w gN pn cn ns u ss W' := by
  obtain ⟨h1, h2, h3, h4, h5, h6⟩ := h
  exact ⟨h1.trans (hb.mono h1.size), h2, by rw [hb.block _ (Array.getElem?_eq_some_iff.1 h3).1]; exact h3, h4.below hb, h5.below hb, h6⟩
theorem OnlyX.below {w W W' : World} {gN gx : Nat} {pn : Option Addr} {cn : Nat} {ns : List PK} {px : Option Addr} {cx : Nat} {xs : List PK} {u : Value} {ss : List PK} (h : OnlyX w gN gx pn cn ns px cx xs u ss W) (hb : Below W.heap.size W W') : OnlyX w gN gx pn cn ns px cx xs u ss W' := by
  obtain ⟨h1, h2, h3, h4, h5, h6, h7, h8, h9⟩ := h
  exact ⟨h1.trans (hb.mono h1.size), h2, h3, by rw [hb.block _ (Array.getElem?_eq_some_iff.1 h4).1]; exact h4, by rw [hb.block _ (Array.getElem?_eq_some_iff.1 h5).1]; exact h5, h6.below hb, h7.below hb, h8.below hb, h9⟩
theorem OnlyJ.cell {w W : World} {gN : Nat} {pn : Option Addr} {cn : Nat} {ns : List PK} {u : Value} {ss : List PK} (h : OnlyJ w gN pn cn ns u ss W) : W.cell? ⟨gN, 0, none⟩ = some (.slice pn ns.length cn) := cell_of_row h.2.2.1 rfl
theorem OnlyX.cells {w W : World} {gN gx : Nat} {pn : Option Addr} {cn : Nat} {ns : List PK} {px : Option Addr} {cx : Nat} {xs : List PK} {u : Value} {ss : List PK} (h : OnlyX w gN gx pn cn ns px cx xs u ss W) : W.cell? ⟨gN, 0, none⟩ = some (.slice pn ns.length cn) ∧ W.cell? ⟨gx, 0, none⟩ = some (.slice px xs.length cx) := ⟨cell_of_row h.2.2.2.1 rfl, cell_of_row h.2.2.2.2.1 rfl⟩
theorem OnlyJ.new {w W V : World} {gN : Nat} {pn : Option Addr} {cn : Nat} {ns : List PK} {u : Value} {ss : List PK} (h : OnlyJ w gN pn cn ns u ss W) (e : W.alloc (.cells #[.slice pn ns.length cn] 24) = V) : OnlyX w gN W.heap.size pn cn ns pn cn ns u ss V := by
  subst e
  have hb := one_below W (.cells #[.slice pn ns.length cn] 24)
  obtain ⟨h1, h2, h3, h4, h5, h6⟩ := h.below hb
  exact ⟨h1, h2, (Array.getElem?_eq_some_iff.1 h.2.2.1).1, h3, heap_alloc_new W _, h4, h4, h5, h6, h6⟩
theorem own_lt {base : Nat} {W : World} {u : Value} {ss : List PK} (h : OwnP base W u ss) {k : Nat} (e : u.ownBlock = some k) : base ≤ k ∧ k < W.heap.size ∧ ∃ cur, W.heap[k]? = some (.cells cur 30 (0, 0)) := by
  obtain ⟨hl, ⟨rfl, hn⟩ | ⟨g, cap, cur, rfl, h1, hg, r⟩⟩ := h
  · simp [Value.ownBlock] at e
  · simp [Value.ownBlock] at e
    subst e
    exact ⟨h1, (Array.getElem?_eq_some_iff.1 hg).1, cur, hg⟩
/-- A call's answer is put into the box. -/
theorem OnlyX.call {w W W2 : World} {gN gx : Nat} {pn : Option Addr} {cn : Nat} {ns : List PK} {px : Option Addr} {cx : Nat} {xs : List PK} {u : Value} {ss : List PK} (h : OnlyX w gN gx pn cn ns px cx xs u ss W) (hb : Below W.heap.size W W2) {p2 : Option Addr} {c2 : Nat} {qs : List PK} (hl : PsL W2 (.slice p2 qs.length c2) qs) (hn : NewP W.heap.size p2) :
    ∃ Wz, W2.setCell ⟨gx, 0, none⟩ (.slice p2 qs.length c2) = Wz ∧ W2.cell? ⟨gx, 0, none⟩ = some (.slice px xs.length cx) ∧ W2.frozen? ⟨gx, 0, none⟩ = false ∧ Hid (OnlyX w gN gx pn cn ns p2 c2 qs u ss Wz) ∧ Wz.heap.size = W2.heap.size ∧ ∀ j, j ≠ gx → Wz.heap[j]? = W2.heap[j]? := by
  have hsep : Sep u p2 qs := fun _ a ha e => by
    have h1 := hn a ha
    have h2 := (own_lt h.2.2.2.2.2.2.2.1 e).2.1
    omega
  obtain ⟨h1, h2, h3, h4, h5, h6, h7, h8, h9, h10⟩ := h.below hb
  obtain ⟨Wz, hWz, z1, z2, z3, z4, z5, zo, zs, z6⟩ := set_box h5 hl
  refine ⟨Wz, hWz, z1, z2, ⟨z6 _ _ h1 (by omega), h2, h3, by rw [zo _ (by omega)]; exact h4, z3, h6.box h5 zo zs, z5, ?_, h9, hsep⟩, by rw [← hWz]; simp [World.setCell], zo⟩
  obtain ⟨hl, ⟨rfl, hn⟩ | ⟨g, cap, cur, rfl, g1, hg, r⟩⟩ := h8
  · exact ⟨hl, .inl ⟨rfl, hn⟩⟩
  · refine ⟨hl, .inr ⟨g, cap, cur, rfl, g1, ?_, r⟩⟩
    rw [zo _ (fun e => by subst e; rw [h5] at hg; cases hg)]; exact hg
/-- One more was sent. -/
theorem OnlyX.sent {w W U : World} {gN gx : Nat} {pn : Option Addr} {cn : Nat} {ns : List PK} {px : Option Addr} {cx : Nat} {xs : List PK} {u : Value} {ss : List PK} (h : OnlyX w gN gx pn cn ns px cx xs u ss W) {f t : Int} {x : ByteArray} (hx : x.size ≤ 140737488355328) (hm : (ss.length + 1) * 32 ≤ 140737488355328) (e : W.alloc (.cells #[.int .i64 f, .int .i64 t, .string x] 30) = U) (ty : TypeId) :
    ∃ u' W', (Builtin.append_ #[22, 22] ty #[u, .slice (some ⟨W.heap.size, 0, none⟩) 1 1]).run Try.prog U = .ok u' W' ∧ Hid (OnlyX w gN gx pn cn ns px cx xs u' (ss ++ [⟨f, t, x⟩]) W') ∧ (∀ j, j < U.heap.size → u.ownBlock ≠ some j → W'.heap[j]? = U.heap[j]?) ∧ U.heap.size ≤ W'.heap.size := by
  obtain ⟨i0, hi0, hz0, hz1, hz2⟩ := info30
  have hbU : Below W.heap.size W U := by rw [← e]; exact one_below _ _
  have gU : U.heap[W.heap.size]? = some (.cells #[.int .i64 f, .int .i64 t, .string x] 30 (0, 0)) := by rw [← e]; exact heap_alloc_new W _
  have hlW : W.heap.size < U.heap.size := (Array.getElem?_eq_some_iff.1 gU).1
  have h0 := h
  obtain ⟨h1, h2, h3, h4, h5, h6, h7, h8, h9, h10⟩ := h.below hbU
  have ho := h8
  unfold OwnP at ho
  have hC : ∀ j v, (flat [(⟨f, t, x⟩ : PK)])[j]? = some v → U.cell? ((⟨W.heap.size, 0, none⟩ : Addr).add j) = some v := by
    refine flat_add (fun j hj => ?_)
    match j, hj with
    | 0, _ => exact ⟨cell_of_row gU rfl, cell_of_row gU rfl, cell_of_row gU rfl⟩
  have hgl : gN + 1 ≤ U.heap.size := by have := (Array.getElem?_eq_some_iff.1 h4).1; omega
  obtain ⟨u', W', er, hown', hgrow, _, hob⟩ := run_append_own_at (P := Try.prog) U (gN + 1) 22 ty 30 i0 _ 3 32 Try.underlying22 hi0 hz0 hz1 hz2 rfl (by omega) u ss.length (flat ss) ho ⟨W.heap.size, 0, none⟩ 1 1 (flat [⟨f, t, x⟩]) (flat_length _) hC (flat_one _) (by unfold maxLen; omega) hm hgl
  have hne : ∀ (k : Nat) (old : Value), U.heap[k]? = some (Obj.cells #[old] 24 (0, 0)) → W'.heap[k]? = some (Obj.cells #[old] 24 (0, 0)) := fun k old hk => by
    rw [hgrow.block k (Array.getElem?_eq_some_iff.1 hk).1 (fun e => by
      obtain ⟨_, _, cur, hg⟩ := own_lt h8 e.symm
      rw [hk] at hg; cases hg)]
    exact hk
  have hsep : ∀ p xs', Sep u p xs' → (∀ n c, PsL W (.slice p n c) xs' → Sep u' p xs') := fun p xs' hs n c hl h0 a ha e => by
    rcases hob with hob | hob
    · exact hs h0 a ha (by rw [← hob]; exact e)
    · rw [hob] at e
      obtain ⟨q, c', e', _, _, _, _, _, hp⟩ := hl
      simp only [Value.slice.injEq] at e'
      obtain ⟨rfl, rfl, rfl⟩ := e'
      obtain ⟨b, o, rfl, hlt, _⟩ := hp h0
      cases ha
      simp only [Option.some.injEq] at e
      omega
  refine ⟨u', W', er, ⟨Below.grown h1 hgrow (Nat.le_trans h1.size (Nat.le_refl _)) (fun j hj => by have := (own_lt h8 hj).1; omega), h2, h3, hne _ _ h4, hne _ _ h5, h6.grown h9 hgrow, h7.grown h10 hgrow, by unfold OwnP; rw [flat_append, List.length_append]; exact hown', hsep _ _ h9 _ _ h0.2.2.2.2.2.1, hsep _ _ h10 _ _ h0.2.2.2.2.2.2.1⟩, fun j hj hj2 => hgrow.block j hj (fun e => hj2 e.symm), hgrow.size⟩
/-- What came of a move is the net. -/
theorem OnlyX.done {w W : World} {gN gx : Nat} {pn : Option Addr} {cn : Nat} {ns : List PK} {px : Option Addr} {cx : Nat} {xs : List PK} {u : Value} {ss : List PK} (h : OnlyX w gN gx pn cn ns px cx xs u ss W) :
    ∃ Wz, W.setCell ⟨gN, 0, none⟩ (.slice px xs.length cx) = Wz ∧ W.cell? ⟨gN, 0, none⟩ = some (.slice pn ns.length cn) ∧ W.frozen? ⟨gN, 0, none⟩ = false ∧ Hid (OnlyJ w gN px cx xs u ss Wz) := by
  obtain ⟨h1, h2, h3, h4, h5, h6, h7, h8, h9, h10⟩ := h
  obtain ⟨Wz, hWz, z1, z2, z3, z4, z5, zo, zs, z6⟩ := set_box h4 h7
  exact ⟨Wz, hWz, z1, z2, z6 _ _ h1 h2, h2, z3, z5, h8.but (g := gN) (by omega) zo, h10⟩
theorem PsL.but' {W W' : World} {p : Option Addr} {n c g : Nat} {ps : List PK} (h : PsL W (.slice p n c) ps) (hp : 0 < ps.length → ∀ a, p = some a → a.block ≠ g) (hoth : ∀ j, j ≠ g → W'.heap[j]? = W.heap[j]?) (hsz : W.heap.size ≤ W'.heap.size) : PsL W' (.slice p n c) ps := by
  obtain ⟨q, c', e, hlc, hc, hl, hs, hn, hp'⟩ := h
  simp only [Value.slice.injEq] at e
  obtain ⟨rfl, rfl, rfl⟩ := e
  refine ⟨_, _, rfl, hlc, hc, hl, hs, hn, fun h0 => ?_⟩
  obtain ⟨b, o, rfl, hlt, hi⟩ := hp' h0
  have hb := hp h0 _ rfl
  refine ⟨b, o, rfl, by omega, fun j hj => ?_⟩
  have hcell : ∀ k, W'.cell? ⟨b, k, none⟩ = W.cell? ⟨b, k, none⟩ := fun k => by simp only [World.cell?, hoth b hb]
  rw [hcell, hcell, hcell]
  exact hi j hj
theorem PsL.lt {W : World} {p : Option Addr} {n c : Nat} {ps : List PK} (h : PsL W (.slice p n c) ps) (h0 : 0 < ps.length) {a : Addr} (ha : p = some a) : a.block < W.heap.size := by
  obtain ⟨q, c', e, _, _, _, _, _, hp⟩ := h
  simp only [Value.slice.injEq] at e
  obtain ⟨rfl, rfl, rfl⟩ := e
  obtain ⟨b, o, rfl, hlt, _⟩ := hp h0
  cases ha
  exact hlt
/-- Another block changes. -/
theorem OnlyX.other {w W W' : World} {gN gx g : Nat} {pn : Option Addr} {cn : Nat} {ns : List PK} {px : Option Addr} {cx : Nat} {xs : List PK} {u : Value} {ss : List PK} (h : OnlyX w gN gx pn cn ns px cx xs u ss W) (hg : gx < g) (hoth : ∀ j, j ≠ g → W'.heap[j]? = W.heap[j]?) (hsz : W.heap.size ≤ W'.heap.size) (hbel : ∀ B w0, Below B w0 W → B ≤ g → Below B w0 W')
    (hpn : 0 < ns.length → ∀ a, pn = some a → a.block ≠ g) (hpx : 0 < xs.length → ∀ a, px = some a → a.block ≠ g) (hu : u.ownBlock ≠ some g) : OnlyX w gN gx pn cn ns px cx xs u ss W' := by
  obtain ⟨h1, h2, h3, h4, h5, h6, h7, h8, h9, h10⟩ := h
  refine ⟨hbel _ _ h1 (by omega), h2, h3, by rw [hoth _ (by omega)]; exact h4, by rw [hoth _ (by omega)]; exact h5, h6.but' hpn hoth hsz, h7.but' hpx hoth hsz, ?_, h9, h10⟩
  obtain ⟨hl, ⟨rfl, hn⟩ | ⟨b, cap, cur, rfl, g1, hb, r⟩⟩ := h8
  · exact ⟨hl, .inl ⟨rfl, hn⟩⟩
  · refine ⟨hl, .inr ⟨b, cap, cur, rfl, g1, ?_, r⟩⟩
    rw [hoth _ (fun e => by subst e; exact hu (by simp [Value.ownBlock]))]; exact hb
/-- The cells of one packet of a list. -/
theorem PsL.at {W : World} {p : Option Addr} {n c : Nat} {fs : List PK} (h : PsL W (.slice p n c) fs) {j : Nat} (hj : j < fs.length) {k : PK} (e : fs[j] = k) : ∃ b o, p = some ⟨b, o, none⟩ ∧ W.cell? ⟨b, o + j * 3, none⟩ = some (.int .i64 k.f) ∧ W.cell? ⟨b, o + j * 3 + 1, none⟩ = some (.int .i64 k.t) ∧ W.cell? ⟨b, o + j * 3 + 2, none⟩ = some (.string k.x) := by
  obtain ⟨_, _, e', _, _, _, _, _, hp⟩ := h
  simp only [Value.slice.injEq] at e'
  obtain ⟨rfl, _, _⟩ := e'
  obtain ⟨b, o, rfl, _, hi⟩ := hp (by omega)
  have := hi j hj
  rw [e] at this
  exact ⟨b, o, rfl, this⟩
end Go.Proofs.Ytnfgfbmkeiimlaa
