/- Boxes that a message lies in. -/
import Derived.Test.YtaobmaehbkancaaDoorNcNd
import Derived.Test.YtaobmaehbkancaaDoorNe
namespace Go.Proofs.YtaobmaehbkancaaDoor
open Go.Shelf Go.RowKit Go.Lib
set_option linter.unusedVariables false
set_option linter.unusedSimpArgs false
/-- A message's cells lie in a block, and may be written. -/
structure Box (W : World) (b : Nat) (cl : List Value) : Prop where
  r : W.rangeAt b 0 cl
  t : W.there b 0 47
  l : cl.length = 47
  lt : b < W.heap.size
theorem cell_block {W W' : World} {b : Nat} (h : W'.heap[b]? = W.heap[b]?) (k : Nat) : W'.cell? ⟨b, k, none⟩ = W.cell? ⟨b, k, none⟩ := by simp [World.cell?, h]
theorem frozen_block {W W' : World} {b : Nat} (h : W'.heap[b]? = W.heap[b]?) (k : Nat) : W'.frozen? ⟨b, k, none⟩ = W.frozen? ⟨b, k, none⟩ := by simp [World.frozen?, h]
theorem Box.keep {W W' : World} {b : Nat} {cl : List Value} (h : Box W b cl) (hb : W'.heap[b]? = W.heap[b]?) (hs : b < W'.heap.size) : Box W' b cl :=
  ⟨fun j v hv => by rw [cell_block hb]; exact h.r j v hv, fun j hj => by rw [cell_block hb, frozen_block hb]; exact h.t j hj, h.l, hs⟩
theorem Box.below {W W' : World} {b s : Nat} {cl : List Value} (h : Box W b cl) (hb : Below s W W') (hs : b < s) : Box W' b cl :=
  h.keep (hb.block b hs) (Nat.lt_of_lt_of_le h.lt hb.size)
theorem Box.cell {W : World} {b : Nat} {cl : List Value} (h : Box W b cl) (k : Nat) (v : Value) (hv : cl[k]? = some v) : W.cell? ⟨b, k, none⟩ = some v := by
  have := h.r k v hv
  rwa [Nat.zero_add] at this
theorem Box.some {W : World} {b : Nat} {cl : List Value} (h : Box W b cl) (k : Nat) (hk : k < 47) : (∃ v, W.cell? ⟨b, k, none⟩ = some v) ∧ W.frozen? ⟨b, k, none⟩ = false := by
  have := h.t k hk
  rw [Nat.zero_add] at this
  exact ⟨Option.isSome_iff_exists.1 this.1, this.2⟩
theorem Box.other {W : World} {b b' k : Nat} {v : Value} {cl : List Value} (h : Box W b cl) (hn : b ≠ b') : Box (W.setCell ⟨b', k, none⟩ v) b cl := by
  obtain ⟨a1, _, _, _, a5⟩ := setCell_any W b' k v
  exact h.keep (a5 b hn) (by rw [a1]; exact h.lt)
theorem Box.put {W : World} {b k : Nat} {v : Value} {cl : List Value} (h : Box W b cl) (hk : k < 47) : Box (W.setCell ⟨b, k, none⟩ v) b (cl.set k v) := by
  have e1 : W.setCell ⟨b, k, none⟩ v = W.setCells b k [v] := rfl
  have ht : W.there b k [v].length := fun j hj => by
    have : j = 0 := by simpa using hj
    subst this
    have := h.t k hk
    rwa [Nat.zero_add] at this
  refine ⟨fun j u hj => ?_, ?_, by simpa using h.l, ?_⟩
  · rw [e1]
    by_cases hjk : j = k
    · subst hjk
      rw [List.getElem?_set_self (by rw [h.l]; exact hk)] at hj
      cases hj
      have := World.rangeAt_setCells_same W b j [v] ht 0 v rfl
      rw [Nat.zero_add]
      exact this
    · rw [List.getElem?_set_ne (fun e => hjk e.symm)] at hj
      have h1 : W.rangeAt b j [u] := fun i x hx => by
        have hi : i = 0 := by
          have := (List.getElem?_eq_some_iff.1 hx).1
          simpa using this
        subst hi
        cases hx
        have := h.r j u hj
        rw [Nat.zero_add] at this
        exact this
      have := World.rangeAt_setCells_apart h1 b k [v] (.inr (by simp; omega)) 0 u rfl
      rw [Nat.zero_add]
      exact this
  · rw [e1]
    exact World.there_setCells h.t b k [v]
  · rw [(setCell_any W b k v).1]; exact h.lt
/-- Three new blocks, in some order. -/
def Trio (s a b c : Nat) : Prop := (s ≤ a ∧ a < s + 3) ∧ (s ≤ b ∧ b < s + 3) ∧ (s ≤ c ∧ c < s + 3) ∧ a ≠ b ∧ a ≠ c ∧ b ≠ c
theorem trio (W : World) (cl : List Value) (hl : cl.length = 47) : ∃ WA, ((W.alloc (.cells zc.toArray 49)).alloc (.cells zc.toArray 49)).alloc (.cells zc.toArray 49) = WA ∧ ∀ a b c, Trio W.heap.size a b c →
    WA.there a 0 cl.toArray.size ∧ (WA.setCells a 0 cl.toArray.toList).there b 0 cl.toArray.size ∧ ((WA.setCells a 0 cl.toArray.toList).setCells b 0 cl.toArray.toList).there c 0 cl.toArray.size ∧
    ∃ WS, ((WA.setCells a 0 cl.toArray.toList).setCells b 0 cl.toArray.toList).setCells c 0 cl.toArray.toList = WS ∧ Box WS a cl ∧ Box WS b cl ∧ Box WS c cl ∧ Below W.heap.size W WS ∧ WS.heap.size = W.heap.size + 3 := by
  refine ⟨_, rfl, fun a b c ht => ?_⟩
  obtain ⟨WA, hWA⟩ : ∃ WA, ((W.alloc (.cells zc.toArray 49)).alloc (.cells zc.toArray 49)).alloc (.cells zc.toArray 49) = WA := ⟨_, rfl⟩
  rw [hWA]
  have hs : WA.heap.size = W.heap.size + 3 := by rw [← hWA]; simp
  have hB : Below W.heap.size W WA := by rw [← hWA]; exact (((Below.refl _ _).alloc (Nat.le_refl _) _).alloc (by simp) _).alloc (by simp; omega) _
  have hg : ∀ d, W.heap.size ≤ d → d < W.heap.size + 3 → WA.heap[d]? = some (.cells zc.toArray 49 (0, 0)) := fun d h1 h2 => by
    rw [← hWA]
    simp only [World.alloc]
    rcases (show d = W.heap.size ∨ d = W.heap.size + 1 ∨ d = W.heap.size + 2 by omega) with rfl | rfl | rfl <;> first | (simp [Array.getElem?_push]; done) | (simp [Array.getElem?_push]; simp [Array.getElem_push]; done)
  have hlen : cl.toArray.size = 47 := by simpa using hl
  have hto : cl.toArray.toList = cl := rfl
  rw [hlen, hto]
  obtain ⟨⟨a1, a2⟩, ⟨b1, b2⟩, ⟨c1, c2⟩, hab, hac, hbc⟩ := ht
  obtain ⟨ta, Wa, hWa, ra, sa, ka⟩ := put_box (hg a a1 a2) rfl cl hl
  have gb := (ka.block b (fun e => hab e.symm)).trans (hg b b1 b2)
  obtain ⟨tb, Wb, hWb, rb', sb, kb⟩ := put_box gb rfl cl hl
  have gc := (kb.block c (fun e => hbc e.symm)).trans ((ka.block c (fun e => hac e.symm)).trans (hg c c1 c2))
  obtain ⟨tc, Wc, hWc, rc, sc, kc⟩ := put_box gc rfl cl hl
  rw [hWa, hWb, hWc]
  have tA : Wc.there a 0 47 := by rw [← hWc, ← hWb, ← hWa]; exact World.there_setCells (World.there_setCells (World.there_setCells ta _ _ _) _ _ _) _ _ _
  have tB : Wc.there b 0 47 := by rw [← hWc, ← hWb]; exact World.there_setCells (World.there_setCells tb _ _ _) _ _ _
  have tC : Wc.there c 0 47 := by rw [← hWc]; exact World.there_setCells tc _ _ _
  have rA : Wc.rangeAt a 0 cl := by rw [← hWc, ← hWb]; exact World.rangeAt_setCells_apart (World.rangeAt_setCells_apart ra _ _ _ (.inl hab)) _ _ _ (.inl hac)
  have rB : Wc.rangeAt b 0 cl := by rw [← hWc]; exact World.rangeAt_setCells_apart rb' _ _ _ (.inl hbc)
  refine ⟨ta, tb, tc, Wc, rfl, ⟨rA, tA, hl, by omega⟩, ⟨rB, tB, hl, by omega⟩, ⟨rc, tC, hl, by omega⟩, ?_, by omega⟩
  refine ⟨?_, ?_, ?_, by omega, fun d hd => ?_⟩
  · rw [kc.os, kb.os, ka.os, hB.os]
  · rw [kc.tape, kb.tape, ka.tape, hB.tape]
  · rw [kc.output, kb.output, ka.output, hB.output]
  · rw [kc.block d (by show d ≠ c; omega), kb.block d (by show d ≠ b; omega), ka.block d (by show d ≠ a; omega), hB.block d hd]
end Go.Proofs.YtaobmaehbkancaaDoor
/- A message of which one field is put. -/
namespace Go.Proofs.YtaobmaehbkancaaDoor
open Go.Shelf Go.RowKit Go.Lib
set_option linter.unusedVariables false
set_option linter.unusedSimpArgs false
theorem sets3 {WS : World} {cl : List Value} {a b c s : Nat} (n : Nat) (ha : Box WS a cl) (hb : Box WS b cl) (hc : Box WS c cl) (ht : Trio s a b c) (hs : WS.heap.size = s + 3) :
    ∃ W5 W6 W7 W8, WS.alloc (.cells #[.int .i64 1] 3) = W5 ∧ W5.setCell ⟨a, 1, none⟩ (.int .u64 (n : Int)) = W6 ∧ W6.setCell ⟨b, 37, none⟩ (.int .u64 (n : Int)) = W7 ∧ W7.setCell ⟨c, 36, none⟩ (.slice (some ⟨WS.heap.size, 0, none⟩) 1 1) = W8 ∧
      ((∃ v, W5.cell? ⟨a, 1, none⟩ = some v) ∧ W5.frozen? ⟨a, 1, none⟩ = false) ∧ ((∃ v, W6.cell? ⟨b, 37, none⟩ = some v) ∧ W6.frozen? ⟨b, 37, none⟩ = false) ∧ ((∃ v, W7.cell? ⟨c, 36, none⟩ = some v) ∧ W7.frozen? ⟨c, 36, none⟩ = false) ∧
      Box W8 a (cl.set 1 (.int .u64 (n : Int))) ∧ Box W8 b (cl.set 37 (.int .u64 (n : Int))) ∧ Box W8 c (cl.set 36 (.slice (some ⟨WS.heap.size, 0, none⟩) 1 1)) ∧ Below s WS W8 ∧ W8.heap.size = s + 4 ∧ W8.cell? ⟨WS.heap.size, 0, none⟩ = some (.int .i64 1) := by
  obtain ⟨W5, h5⟩ : ∃ W5, WS.alloc (.cells #[.int .i64 1] 3) = W5 := ⟨_, rfl⟩
  obtain ⟨W6, h6⟩ : ∃ W6, W5.setCell ⟨a, 1, none⟩ (.int .u64 (n : Int)) = W6 := ⟨_, rfl⟩
  obtain ⟨W7, h7⟩ : ∃ W7, W6.setCell ⟨b, 37, none⟩ (.int .u64 (n : Int)) = W7 := ⟨_, rfl⟩
  obtain ⟨W8, h8⟩ : ∃ W8, W7.setCell ⟨c, 36, none⟩ (.slice (some ⟨WS.heap.size, 0, none⟩) 1 1) = W8 := ⟨_, rfl⟩
  obtain ⟨⟨a1, a2⟩, ⟨b1, b2⟩, ⟨c1, c2⟩, hab, hac, hbc⟩ := ht
  have s5 : W5.heap.size = s + 4 := by rw [← h5]; simp; omega
  have k5 : ∀ d, d < s + 3 → W5.heap[d]? = WS.heap[d]? := fun d hd => by rw [← h5]; exact hao WS _ d (by omega)
  have n5 : W5.heap[WS.heap.size]? = some (.cells #[.int .i64 1] 3 (0, 0)) := by rw [← h5]; exact heap_alloc_new WS _
  have A5 : Box W5 a cl := ha.keep (k5 a (by omega)) (by omega)
  have B5 : Box W5 b cl := hb.keep (k5 b (by omega)) (by omega)
  have C5 : Box W5 c cl := hc.keep (k5 c (by omega)) (by omega)
  obtain ⟨t1, t2, t3, t4, t5⟩ := setCell_any W5 a 1 (.int .u64 (n : Int))
  rw [h6] at t1 t2 t3 t4 t5
  obtain ⟨u1, u2, u3, u4, u5⟩ := setCell_any W6 b 37 (.int .u64 (n : Int))
  rw [h7] at u1 u2 u3 u4 u5
  obtain ⟨v1, v2, v3, v4, v5⟩ := setCell_any W7 c 36 (.slice (some ⟨WS.heap.size, 0, none⟩) 1 1)
  rw [h8] at v1 v2 v3 v4 v5
  have A6 : Box W6 a (cl.set 1 (.int .u64 (n : Int))) := by rw [← h6]; exact A5.put (by omega)
  have B6 : Box W6 b cl := B5.keep (t5 b (fun e => hab e.symm)) (by omega)
  have C6 : Box W6 c cl := C5.keep (t5 c (fun e => hac e.symm)) (by omega)
  have A7 : Box W7 a (cl.set 1 (.int .u64 (n : Int))) := A6.keep (u5 a hab) (by omega)
  have B7 : Box W7 b (cl.set 37 (.int .u64 (n : Int))) := by rw [← h7]; exact B6.put (by omega)
  have C7 : Box W7 c cl := C6.keep (u5 c (fun e => hbc e.symm)) (by omega)
  have A8 : Box W8 a (cl.set 1 (.int .u64 (n : Int))) := A7.keep (v5 a hac) (by omega)
  have B8 : Box W8 b (cl.set 37 (.int .u64 (n : Int))) := B7.keep (v5 b hbc) (by omega)
  have C8 : Box W8 c (cl.set 36 (.slice (some ⟨WS.heap.size, 0, none⟩) 1 1)) := by rw [← h8]; exact C7.put (by omega)
  refine ⟨W5, W6, W7, W8, h5, h6, h7, h8, A5.some 1 (by omega), B6.some 37 (by omega), C7.some 36 (by omega), A8, B8, C8, ?_, by omega, ?_⟩
  · refine ⟨?_, ?_, ?_, by omega, fun d hd => ?_⟩
    · rw [v2, u2, t2, ← h5]; rfl
    · rw [v3, u3, t3, ← h5]; rfl
    · rw [v4, u4, t4, ← h5]; rfl
    · rw [v5 d (by omega), u5 d (by omega), t5 d (by omega), k5 d (by omega)]
  · rw [cell_block (v5 WS.heap.size (by omega)), cell_block (u5 WS.heap.size (by omega)), cell_block (t5 WS.heap.size (by omega))]
    exact cellR n5 (by simp)
theorem set_out {cl : List Value} {i : Nat} {v : Value} {k : Nat} (h : k ≠ i) : (cl.set i v).toArray[k]? = cl.toArray[k]? := by
  simp [List.getElem?_set_ne (fun e : i = k => h e.symm)]
theorem set_in {cl : List Value} {i : Nat} {v : Value} (h : i < cl.length) : (cl.set i v).toArray[i]? = some v := by
  simp [List.getElem?_set_self h]
theorem one_in {cl : List Value} {i : Nat} {v : Value} (h : i < cl.length) : ∀ (j : Nat) (u : Value), [v][j]? = some u → (cl.set i v).toArray[i + j]? = some u := fun j u hj => by
  have hj0 : j = 0 := by
    have := (List.getElem?_eq_some_iff.1 hj).1
    simpa using this
  subst hj0
  cases hj
  exact set_in h
theorem set_boot {D : Nat → Prop} {W : World} {cl : List Value} {x : Mg} (h : MsgIs D W cl.toArray x) (n : Nat) (hn : n < 18446744073709551616) : MsgIs D W (cl.set 1 (.int .u64 (n : Int))).toArray { x with bt := n } := by
  have hl : cl.length = 47 := by simpa using h.size
  exact {
    size := by simpa using hl
    kc := (set_out (by omega)).trans h.kc
    kl := h.kl
    bt := ⟨[.int .u64 (n : Int)], rfl, one_in (by omega), rfl, hn⟩
    qr := h.qr.keep mVrs (fun k a b => set_out (by omega)) (fun _ h => h) (Kept.refl _ _)
    at_ := h.at_.keep mInt (fun k a b => set_out (by omega)) (fun _ h => h) (Kept.refl _ _)
    fr := h.fr.keep mInt (fun k a b => set_out (by omega)) (fun _ h => h) (Kept.refl _ _)
    tq := h.tq.keep mInt (fun k a b => set_out (by omega)) (fun _ h => h) (Kept.refl _ _)
    bd := h.bd.keep mBnd (fun k a b => set_out (by omega)) (fun _ h => h) (Kept.refl _ _)
    ct := h.ct.keep mTbls (fun k a b => set_out (by omega)) (fun _ h => h) (Kept.refl _ _)
    fg := h.fg.keep mFrg (fun k a b => set_out (by omega)) (fun _ h => h) (Kept.refl _ _)
    nd := h.nd.keep mInts (fun k a b => set_out (by omega)) (fun _ h => h) (Kept.refl _ _)
    sq := h.sq.keep mNum (fun k a b => set_out (by omega)) (fun _ h => h) (Kept.refl _ _)
    ls := h.ls.keep mBoo (fun k a b => set_out (by omega)) (fun _ h => h) (Kept.refl _ _)
    rw_ := h.rw_.keep mRws (fun k a b => set_out (by omega)) (fun _ h => h) (Kept.refl _ _)
    fh := h.fh.keep mFh (fun k a b => set_out (by omega)) (fun _ h => h) (Kept.refl _ _)
    fw := h.fw.keep mRws (fun k a b => set_out (by omega)) (fun _ h => h) (Kept.refl _ _)
    cm := h.cm.keep mClms (fun k a b => set_out (by omega)) (fun _ h => h) (Kept.refl _ _) }
theorem set_seq {D : Nat → Prop} {W : World} {cl : List Value} {x : Mg} (h : MsgIs D W cl.toArray x) (n : Nat) (hn : n < 18446744073709551616) : MsgIs D W (cl.set 37 (.int .u64 (n : Int))).toArray { x with sq := n } := by
  have hl : cl.length = 47 := by simpa using h.size
  exact {
    size := by simpa using hl
    kc := (set_out (by omega)).trans h.kc
    kl := h.kl
    bt := h.bt.keep mNum (fun k a b => set_out (by omega)) (fun _ h => h) (Kept.refl _ _)
    qr := h.qr.keep mVrs (fun k a b => set_out (by omega)) (fun _ h => h) (Kept.refl _ _)
    at_ := h.at_.keep mInt (fun k a b => set_out (by omega)) (fun _ h => h) (Kept.refl _ _)
    fr := h.fr.keep mInt (fun k a b => set_out (by omega)) (fun _ h => h) (Kept.refl _ _)
    tq := h.tq.keep mInt (fun k a b => set_out (by omega)) (fun _ h => h) (Kept.refl _ _)
    bd := h.bd.keep mBnd (fun k a b => set_out (by omega)) (fun _ h => h) (Kept.refl _ _)
    ct := h.ct.keep mTbls (fun k a b => set_out (by omega)) (fun _ h => h) (Kept.refl _ _)
    fg := h.fg.keep mFrg (fun k a b => set_out (by omega)) (fun _ h => h) (Kept.refl _ _)
    nd := h.nd.keep mInts (fun k a b => set_out (by omega)) (fun _ h => h) (Kept.refl _ _)
    sq := ⟨[.int .u64 (n : Int)], rfl, one_in (by omega), rfl, hn⟩
    ls := h.ls.keep mBoo (fun k a b => set_out (by omega)) (fun _ h => h) (Kept.refl _ _)
    rw_ := h.rw_.keep mRws (fun k a b => set_out (by omega)) (fun _ h => h) (Kept.refl _ _)
    fh := h.fh.keep mFh (fun k a b => set_out (by omega)) (fun _ h => h) (Kept.refl _ _)
    fw := h.fw.keep mRws (fun k a b => set_out (by omega)) (fun _ h => h) (Kept.refl _ _)
    cm := h.cm.keep mClms (fun k a b => set_out (by omega)) (fun _ h => h) (Kept.refl _ _) }
theorem set_nodes {D : Nat → Prop} {W : World} {cl : List Value} {x : Mg} (h : MsgIs D W cl.toArray x) (g : Nat) (hg : W.cell? ⟨g, 0, none⟩ = some (.int .i64 1)) : MsgIs (fun b => D b ∨ b = g) W (cl.set 36 (.slice (some ⟨g, 0, none⟩) 1 1)).toArray { x with nd := [1] } := by
  have hl : cl.length = 47 := by simpa using h.size
  exact {
    size := by simpa using hl
    kc := (set_out (by omega)).trans h.kc
    kl := h.kl
    bt := h.bt.keep mNum (fun k a b => set_out (by omega)) (fun _ h => .inl h) (Kept.refl _ _)
    qr := h.qr.keep mVrs (fun k a b => set_out (by omega)) (fun _ h => .inl h) (Kept.refl _ _)
    at_ := h.at_.keep mInt (fun k a b => set_out (by omega)) (fun _ h => .inl h) (Kept.refl _ _)
    fr := h.fr.keep mInt (fun k a b => set_out (by omega)) (fun _ h => .inl h) (Kept.refl _ _)
    tq := h.tq.keep mInt (fun k a b => set_out (by omega)) (fun _ h => .inl h) (Kept.refl _ _)
    bd := h.bd.keep mBnd (fun k a b => set_out (by omega)) (fun _ h => .inl h) (Kept.refl _ _)
    ct := h.ct.keep mTbls (fun k a b => set_out (by omega)) (fun _ h => .inl h) (Kept.refl _ _)
    fg := h.fg.keep mFrg (fun k a b => set_out (by omega)) (fun _ h => .inl h) (Kept.refl _ _)
    nd := ⟨[.slice (some ⟨g, 0, none⟩) 1 1], rfl, one_in (by omega), _, rfl, some ⟨g, 0, none⟩, 1, rfl, by simp, fun _ => ⟨g, 0, rfl, .inr rfl, fun j hj => ⟨[.int .i64 1], rfl, fun i u hi => by
      have hi0 : i = 0 := by
        have := (List.getElem?_eq_some_iff.1 hi).1
        simpa using this
      have hj0 : j = 0 := by simpa using hj
      subst hi0 hj0
      cases hi
      exact hg, by
      have hj0 : j = 0 := by simpa using hj
      subst hj0
      exact ⟨rfl, by unfold I64; simp⟩⟩⟩⟩
    sq := h.sq.keep mNum (fun k a b => set_out (by omega)) (fun _ h => .inl h) (Kept.refl _ _)
    ls := h.ls.keep mBoo (fun k a b => set_out (by omega)) (fun _ h => .inl h) (Kept.refl _ _)
    rw_ := h.rw_.keep mRws (fun k a b => set_out (by omega)) (fun _ h => .inl h) (Kept.refl _ _)
    fh := h.fh.keep mFh (fun k a b => set_out (by omega)) (fun _ h => .inl h) (Kept.refl _ _)
    fw := h.fw.keep mRws (fun k a b => set_out (by omega)) (fun _ h => .inl h) (Kept.refl _ _)
    cm := h.cm.keep mClms (fun k a b => set_out (by omega)) (fun _ h => .inl h) (Kept.refl _ _) }
end Go.Proofs.YtaobmaehbkancaaDoor
