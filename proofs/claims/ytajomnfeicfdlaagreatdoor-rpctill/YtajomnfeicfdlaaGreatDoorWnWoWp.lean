/- What stands in a part's function: the walk's box, the part's box, the answer's box. -/
import Derived.Test.YtajomnfeicfdlaaGreatDoorWkWm
import Derived.Deep.RegionWith
namespace Go.Proofs.YtajomnfeicfdlaaGreatDoor
open Go.Shelf Go.RowKit Go.Lib
set_option linter.unusedVariables false
set_option linter.unusedSimpArgs false
def noB : Nat → Prop := fun _ => False
/-- What a part's function keeps. -/
abbrev KF (K N : Nat → Prop) (n : Nat) : Nat → Prop := fun b => K b ∨ N b ∨ b = n ∨ b = n + 1 ∨ b = n + 1 + 1
structure Fr (K N : Nat → Prop) (w : World) (t p E : Nat) (cur res : Array Value) (W : World) (st : St) : Prop where
 kept : Kept K w W
 b0 : W.heap[w.heap.size]? = some (wb t p)
 b1 : W.heap[w.heap.size + 1]? = some (.cells cur E (0, 0))
 b2 : W.heap[w.heap.size + 1 + 1]? = some (.cells res E (0, 0))
 port : PortIs (KF K N w.heap.size) W t p st
 new : ∀ b, N b → w.heap.size + 1 + 1 < b
 lt : ∀ b, K b → b < w.heap.size
theorem Fr.start {K : Nat → Prop} {w : World} {t p : Nat} {st : St} (h : PortIs K w t p st) (E : Nat) (cur res : Array Value) : ∃ W0, ((w.alloc (wb t p)).alloc (.cells cur E)).alloc (.cells res E) = W0 ∧ Fr K noB w t p E cur res W0 st := by
 refine ⟨_, rfl, ?_⟩
 have k1 := ((((Kept.refl K w).alloc h.lt (wb t p)).alloc h.lt (.cells cur E)).alloc h.lt (.cells res E))
 have s1 : (w.alloc (wb t p)).heap.size = w.heap.size + 1 := by simp
 have s2 : ((w.alloc (wb t p)).alloc (.cells cur E)).heap.size = w.heap.size + 1 + 1 := by simp
 have p1 := (((h.alloc (wb t p)).alloc (.cells cur E)).alloc (.cells res E))
 rw [s1, s2] at p1
 refine ⟨k1, ?_, ?_, ?_, p1.less fun b hb => ?_, fun b hb => hb.elim, h.lt⟩
 ·rw [hao _ _ _ (by rw [s2]; omega), hao _ _ _ (by rw [s1]; omega)]
  exact heap_alloc_new w _
 ·rw [hao _ _ _ (by rw [s2]; omega), ← s1]
  exact heap_alloc_new _ _
 ·rw [← s2]
  exact heap_alloc_new _ _
 ·rcases hb with hb | hb | hb | hb | hb
  ·exact .inl (.inl (.inl hb))
  ·exact hb.elim
  ·exact .inl (.inl (.inr hb))
  ·exact .inl (.inr hb)
  ·exact .inr hb
theorem Fr.cell0 {K N : Nat → Prop} {w W : World} {t p E : Nat} {cur res : Array Value} {st : St} (h : Fr K N w t p E cur res W st) : W.cell? ⟨w.heap.size, 0, none⟩ = some (.iface t (.pointer (some ⟨p, 0, none⟩))) := cellR h.b0 rfl
theorem Fr.cell1 {K N : Nat → Prop} {w W : World} {t p E : Nat} {cur res : Array Value} {st : St} (h : Fr K N w t p E cur res W st) {k : Nat} {v : Value} (hv : cur[k]? = some v) : W.cell? ⟨w.heap.size + 1, k, none⟩ = some v := cellR h.b1 hv
theorem Fr.cell2 {K N : Nat → Prop} {w W : World} {t p E : Nat} {cur res : Array Value} {st : St} (h : Fr K N w t p E cur res W st) {k : Nat} {v : Value} (hv : res[k]? = some v) : W.cell? ⟨w.heap.size + 1 + 1, k, none⟩ = some v := cellR h.b2 hv
theorem Fr.fz1 {K N : Nat → Prop} {w W : World} {t p E : Nat} {cur res : Array Value} {st : St} (h : Fr K N w t p E cur res W st) (k : Nat) : W.frozen? ⟨w.heap.size + 1, k, none⟩ = false := frozen_zero h.b1 k
theorem Fr.fz2 {K N : Nat → Prop} {w W : World} {t p E : Nat} {cur res : Array Value} {st : St} (h : Fr K N w t p E cur res W st) (k : Nat) : W.frozen? ⟨w.heap.size + 1 + 1, k, none⟩ = false := frozen_zero h.b2 k
/-- A call that has no new lists. -/
theorem Fr.call {K N : Nat → Prop} {w W : World} {t p E : Nat} {cur res : Array Value} {st st' : St} (h : Fr K N w t p E cur res W st) {F : Nat} {args : Array Value} {R : Ending → Prop}
  (hc : Calls Tryz.prog F args W fun e w' => R e ∧ PortIs (KF K N w.heap.size) w' t p st' ∧ Kept (KF K N w.heap.size) W w') : Calls Tryz.prog F args W fun e w' => R e ∧ Fr K N w t p E cur res w' st' ∧ Kept (fun b => K b ∨ N b) W w' := by
 refine hc.mono fun e w' ⟨h1, h2, h3⟩ => ⟨h1, ⟨h.kept.trans (h3.less fun b hb => .inl hb), ?_, ?_, ?_, h2, h.new, h.lt⟩, h3.less fun b hb => hb.elim .inl (fun h => .inr (.inl h))⟩
 ·rw [h3.block _ (.inr (.inr (.inl rfl)))]; exact h.b0
 ·rw [h3.block _ (.inr (.inr (.inr (.inl rfl))))]; exact h.b1
 ·rw [h3.block _ (.inr (.inr (.inr (.inr rfl))))]; exact h.b2
/-- .. and one that has. -/
theorem Fr.callN {K N : Nat → Prop} {w W : World} {t p E : Nat} {cur res : Array Value} {st st' : St} (h : Fr K N w t p E cur res W st) {F : Nat} {args : Array Value} {R : (Nat → Prop) → Ending → World → Prop}
  (hc : Calls Tryz.prog F args W fun e w' => ∃ N', R N' e w' ∧ (∀ b, N' b → W.heap.size ≤ b) ∧ PortIs (fun b => KF K N w.heap.size b ∨ N' b) w' t p st' ∧ Kept (KF K N w.heap.size) W w') :
  Calls Tryz.prog F args W fun e w' => ∃ N', R N' e w' ∧ Fr K (fun b => N b ∨ N' b) w t p E cur res w' st' ∧ Kept (fun b => K b ∨ N b) W w' := by
 refine hc.mono fun e w' ⟨N', h1, h0, h2, h3⟩ => ⟨N', h1, ⟨h.kept.trans (h3.less fun b hb => .inl hb), ?_, ?_, ?_, h2.less fun b hb => ?_, fun b hb => ?_, h.lt⟩, h3.less fun b hb => hb.elim .inl (fun h => .inr (.inl h))⟩
 ·rw [h3.block _ (.inr (.inr (.inl rfl)))]; exact h.b0
 ·rw [h3.block _ (.inr (.inr (.inr (.inl rfl))))]; exact h.b1
 ·rw [h3.block _ (.inr (.inr (.inr (.inr rfl))))]; exact h.b2
 ·rcases hb with hb | (hb | hb) | hb
  ·exact .inl (.inl hb)
  ·exact .inl (.inr (.inl hb))
  ·exact .inr hb
  ·exact .inl (.inr (.inr hb))
 ·rcases hb with hb | hb
  ·exact h.new b hb
  ·have h4 := h0 b hb
   have h5 := (Array.getElem?_eq_some_iff.1 h.b2).1
   omega
theorem Fr.set1 {K N : Nat → Prop} {w W : World} {t p E : Nat} {cur res : Array Value} {st : St} (h : Fr K N w t p E cur res W st) (k : Nat) (v : Value) : ∃ W', W.setCell ⟨w.heap.size + 1, k, none⟩ v = W' ∧ Fr K N w t p E (cur.setIfInBounds k v) res W' st ∧ Kept (fun b => K b ∨ N b) W W' := by
 refine ⟨_, rfl, ?_⟩
 have hs := set_size (k := k) h.b1 v
 have ho : ∀ b, b ≠ w.heap.size + 1 → (W.setCell ⟨w.heap.size + 1, k, none⟩ v).heap[b]? = W.heap[b]? := fun b hb => set_other h.b1 v hb
 refine ⟨⟨h.kept.set h.b1 v (fun e => by have := h.lt _ e; omega), ?_, ?_, ?_, ?_, h.new, h.lt⟩, (Kept.refl _ W).set h.b1 v (fun e => e.elim (fun e => by have := h.lt _ e; omega) (fun e => by have := h.new _ e; omega))⟩
 ·rw [ho _ (by omega)]; exact h.b0
 ·rw [setCell_eq_setRow W _ k _ E (0, 0) v h.b1]; exact setRow_heap W _ _ _ E _ h.b1
 ·rw [ho _ (by omega)]; exact h.b2
 ·exact h.port.but hs (fun b hb => ho b (fun e => hb (.inr (.inr (.inr (.inl e))))))
theorem Fr.set2 {K N : Nat → Prop} {w W : World} {t p E : Nat} {cur res : Array Value} {st : St} (h : Fr K N w t p E cur res W st) (k : Nat) (v : Value) : ∃ W', W.setCell ⟨w.heap.size + 1 + 1, k, none⟩ v = W' ∧ Fr K N w t p E cur (res.setIfInBounds k v) W' st ∧ Kept (fun b => K b ∨ N b) W W' := by
 refine ⟨_, rfl, ?_⟩
 have hs := set_size (k := k) h.b2 v
 have ho : ∀ b, b ≠ w.heap.size + 1 + 1 → (W.setCell ⟨w.heap.size + 1 + 1, k, none⟩ v).heap[b]? = W.heap[b]? := fun b hb => set_other h.b2 v hb
 refine ⟨⟨h.kept.set h.b2 v (fun e => by have := h.lt _ e; omega), ?_, ?_, ?_, ?_, h.new, h.lt⟩, (Kept.refl _ W).set h.b2 v (fun e => e.elim (fun e => by have := h.lt _ e; omega) (fun e => by have := h.new _ e; omega))⟩
 ·rw [ho _ (by omega)]; exact h.b0
 ·rw [ho _ (by omega)]; exact h.b1
 ·rw [setCell_eq_setRow W _ k _ E (0, 0) v h.b2]; exact setRow_heap W _ _ _ E _ h.b2
 ·exact h.port.but hs (fun b hb => ho b (fun e => hb (.inr (.inr (.inr (.inr e))))))
theorem Fr.fin {K N : Nat → Prop} {w W : World} {t p E : Nat} {cur res : Array Value} {st : St} (h : Fr K N w t p E cur res W st) : (∀ b, N b → w.heap.size ≤ b) ∧ PortIs (fun b => K b ∨ N b) W t p st ∧ Kept K w W :=
 ⟨fun b hb => by have := h.new b hb; omega, h.port.less fun b hb => hb.elim .inl (fun h => .inr (.inl h)), h.kept⟩
end Go.Proofs.YtajomnfeicfdlaaGreatDoor
/- Contracts of lists' functions; ranges. -/
namespace Go.Proofs.YtajomnfeicfdlaaGreatDoor
open Go.Shelf Go.RowKit Go.Lib
set_option linter.unusedVariables false
set_option linter.unusedSimpArgs false
attribute [local go_sem ↓] Go.wp_at_zero Go.wp_at_succ
theorem txtP_small (st : St) (s : ByteArray) (h : small s) : small (txtP st s).1 := by
 cases st using St.three with
 | wr b f => simp only [txtP]; split <;> exact h
 | bl f => exact h
 | rd r f =>
  obtain ⟨r', f', h2⟩ := rnF_rd 10 0 0 r f
  obtain ⟨⟨n, st'⟩, hr⟩ : ∃ q, rnF 10 0 0 (.rd r f) = q := ⟨_, rfl⟩
  rw [hr] at h2
  simp only at h2
  subst h2
  simp only [txtP, hr]
  split
  ·show (0 : Nat) ≤ _; omega
  ·rename_i hn
   simp only [takeP]
   split
   ·show (0 : Nat) ≤ _; omega
   ·show (r'.extract 0 n).size ≤ _
    rw [ByteArray.size_extract]
    omega
/-- What a function does to a list. -/
def SliceC {α : Type} (rel : Rel α) (size bytes : Nat) (fP : St → List α → List α × St) (c t p F : Nat) : Prop :=
 ∀ (K D : Nat → Prop) (W : World) (st : St) (v : Value) (xs : List α), Tabs K W → PortIs K W t p st → (∀ b, D b → K b) → ListIs rel size bytes D W v xs → max st.len 65536 + c ≤ 990000 →
  Calls Tryz.prog F #[wk t p, v] W fun e w' => ∃ (N : Nat → Prop) (v' : Value), e = .returned v' ∧ (∀ b, N b → W.heap.size ≤ b) ∧ PortIs (fun b => K b ∨ N b) w' t p (fP st xs).2 ∧ ListIs rel size bytes (fun b => D b ∨ N b) w' v' (fP st xs).1 ∧ Kept K W w'
theorem whole_part (t p : Nat) : PartC rInt longP 10 t p 120 #[wk t p] := by
 intro K D w st cs x htb h hDK hrel hl
 obtain ⟨rfl, hi⟩ := hrel
 refine (whole_any K t p st x w h hi (by omega)).mono ?_
 rintro e w' ⟨rfl, h1, h2⟩
 exact ⟨noB, [.int .i64 (longP st x).1], rfl, fun b hb => hb.elim, h1.less fun b hb => hb.elim id (fun h => h.elim), ⟨rfl, longP_in st x hi⟩, h2⟩
theorem knd_part (t p : Nat) : PartC rKnd octP 1 t p 128 #[wk t p] := by
 intro K D w st cs x htb h hDK hrel hl
 obtain ⟨rfl, hi⟩ := hrel
 refine (kind40_any K t p st x w h hi (by omega)).mono ?_
 rintro e w' ⟨rfl, h1, h2⟩
 exact ⟨noB, [.int .u8 ((octP st x).1 : Int)], rfl, fun b hb => hb.elim, h1.less fun b hb => hb.elim id (fun h => h.elim), ⟨rfl, octP_lt st x hi⟩, h2⟩
theorem txt_part (t p : Nat) : PartC rTxt txtP 2058 t p (txF t) #[.pointer (some ⟨p, 0, none⟩)] := by
 intro K D w st cs x htb h hDK hrel hl
 obtain ⟨rfl, hi⟩ := hrel
 refine (txt_any K t p st x w h hi (by omega)).mono ?_
 rintro e w' ⟨rfl, h1, h2⟩
 exact ⟨noB, [.string (txtP st x).1], rfl, fun b hb => hb.elim, h1.less fun b hb => hb.elim id (fun h => h.elim), ⟨rfl, txtP_small st x hi⟩, h2⟩
theorem e32 : ∀ args w, (callFunc 120 args).run Tryz.prog w = .ok (.enter 120 args) w := enters_of Tryz.func120 (by kernel_rfl) rfl
theorem e40 : ∀ args w, (callFunc 128 args).run Tryz.prog w = .ok (.enter 128 args) w := enters_of Tryz.func128 (by kernel_rfl) rfl
theorem e52 : ∀ args w, (callFunc 140 args).run Tryz.prog w = .ok (.enter 140 args) w := enters_of Tryz.func140 (by kernel_rfl) rfl
theorem e36 : ∀ args w, (callFunc 124 args).run Tryz.prog w = .ok (.enter 124 args) w := enters_of Tryz.func124 (by kernel_rfl) rfl
theorem e42 : ∀ args w, (callFunc 130 args).run Tryz.prog w = .ok (.enter 130 args) w := enters_of Tryz.func130 (by kernel_rfl) rfl
theorem e45 : ∀ args w, (callFunc 133 args).run Tryz.prog w = .ok (.enter 133 args) w := enters_of Tryz.func133 (by kernel_rfl) rfl
theorem e63 : ∀ args w, (callFunc 151 args).run Tryz.prog w = .ok (.enter 151 args) w := enters_of Tryz.func151 (by kernel_rfl) rfl
theorem e65 : ∀ args w, (callFunc 153 args).run Tryz.prog w = .ok (.enter 153 args) w := enters_of Tryz.func153 (by kernel_rfl) rfl
theorem e49 : ∀ args w, (callFunc 137 args).run Tryz.prog w = .ok (.enter 137 args) w := enters_of Tryz.func137 (by kernel_rfl) rfl
theorem e34 : ∀ args w, (callFunc 122 args).run Tryz.prog w = .ok (.enter 122 args) w := enters_of Tryz.func122 (by kernel_rfl) rfl
end Go.Proofs.YtajomnfeicfdlaaGreatDoor
/- What stands in a field's function: the walk's box, the message's box. -/
namespace Go.Proofs.YtajomnfeicfdlaaGreatDoor
open Go.Shelf Go.RowKit Go.Lib
set_option linter.unusedVariables false
set_option linter.unusedSimpArgs false
/-- What a field's function keeps. -/
abbrev KM (K N : Nat → Prop) (n mb : Nat) : Nat → Prop := fun b => K b ∨ N b ∨ b = n ∨ b = mb
/-- Cells of a row from a place on; all else as it was. -/
def CurAt (cur0 cur : Array Value) (lo : Nat) (cs : List Value) : Prop := (∀ i u, cs[i]? = some u → cur[lo + i]? = some u) ∧ (∀ k, k < lo ∨ lo + cs.length ≤ k → cur[k]? = cur0[k]?)
structure Fm (K N : Nat → Prop) (w : World) (t p mb lo : Nat) (cur0 : Array Value) (cs : List Value) (W : World) (st : St) : Prop where
 kept : Kept K w W
 b0 : W.heap[w.heap.size]? = some (wb t p)
 b1 : ∃ cur, W.heap[mb]? = some (.cells cur 63 (0, 0)) ∧ CurAt cur0 cur lo cs
 port : PortIs (KM K N w.heap.size mb) W t p st
 new : ∀ b, N b → w.heap.size < b
 lt : ∀ b, K b → b < w.heap.size
 nk : ¬ K mb
 ml : mb < w.heap.size
theorem Fm.start {K : Nat → Prop} {w : World} {t p mb lo : Nat} {cur : Array Value} {cs : List Value} {st : St} (h : PortIs (fun b => K b ∨ b = mb) w t p st) (hk : ¬ K mb) (hb : w.heap[mb]? = some (.cells cur 63 (0, 0))) (hc : ∀ i u, cs[i]? = some u → cur[lo + i]? = some u) : ∃ W0, w.alloc (wb t p) = W0 ∧ Fm K noB w t p mb lo cur cs W0 st := by
 refine ⟨_, rfl, ?_⟩
 have hml : mb < w.heap.size := (Array.getElem?_eq_some_iff.1 hb).1
 have hlt : ∀ b, K b → b < w.heap.size := fun b hb => h.lt b (.inl hb)
 refine ⟨(Kept.refl K w).alloc hlt _, heap_alloc_new w _, ⟨cur, by rw [hao _ _ _ hml]; exact hb, hc, fun _ _ => rfl⟩, (h.alloc _).less fun b hb => ?_, fun b hb => hb.elim, hlt, hk, hml⟩
 rcases hb with hb | hb | hb | hb
 ·exact .inl (.inl hb)
 ·exact hb.elim
 ·exact .inr hb
 ·exact .inl (.inr hb)
section
variable {K N : Nat → Prop} {w W : World} {t p mb lo : Nat} {cur0 : Array Value} {cs : List Value} {st st' : St}
theorem Fm.cell0 (h : Fm K N w t p mb lo cur0 cs W st) : W.cell? ⟨w.heap.size, 0, none⟩ = some (.iface t (.pointer (some ⟨p, 0, none⟩))) := cellR h.b0 rfl
theorem Fm.cell1 (h : Fm K N w t p mb lo cur0 cs W st) {k i : Nat} {v : Value} (hk : k = lo + i) (hv : cs[i]? = some v) : W.cell? ⟨mb, k, none⟩ = some v := by
 obtain ⟨cur, hg, hc, _⟩ := h.b1
 subst hk
 exact cellR hg (hc i v hv)
theorem Fm.fz1 (h : Fm K N w t p mb lo cur0 cs W st) (k : Nat) : W.frozen? ⟨mb, k, none⟩ = false := by
 obtain ⟨cur, hg, _⟩ := h.b1
 exact frozen_zero hg k
theorem Fm.call (h : Fm K N w t p mb lo cur0 cs W st) {F : Nat} {args : Array Value} {R : Ending → Prop}
  (hc : Calls Tryz.prog F args W fun e w' => R e ∧ PortIs (KM K N w.heap.size mb) w' t p st' ∧ Kept (KM K N w.heap.size mb) W w') : Calls Tryz.prog F args W fun e w' => R e ∧ Fm K N w t p mb lo cur0 cs w' st' ∧ Kept (fun b => K b ∨ N b) W w' := by
 refine hc.mono fun e w' ⟨h1, h2, h3⟩ => ⟨h1, ⟨h.kept.trans (h3.less fun b hb => .inl hb), ?_, ?_, h2, h.new, h.lt, h.nk, h.ml⟩, h3.less fun b hb => hb.elim .inl (fun h => .inr (.inl h))⟩
 ·rw [h3.block _ (.inr (.inr (.inl rfl)))]; exact h.b0
 ·obtain ⟨cur, hg, hc⟩ := h.b1
  exact ⟨cur, by rw [h3.block _ (.inr (.inr (.inr rfl)))]; exact hg, hc⟩
theorem Fm.callN (h : Fm K N w t p mb lo cur0 cs W st) {F : Nat} {args : Array Value} {R : (Nat → Prop) → Ending → World → Prop}
  (hc : Calls Tryz.prog F args W fun e w' => ∃ N', R N' e w' ∧ (∀ b, N' b → W.heap.size ≤ b) ∧ PortIs (fun b => KM K N w.heap.size mb b ∨ N' b) w' t p st' ∧ Kept (KM K N w.heap.size mb) W w') :
  Calls Tryz.prog F args W fun e w' => ∃ N', R N' e w' ∧ Fm K (fun b => N b ∨ N' b) w t p mb lo cur0 cs w' st' ∧ Kept (fun b => K b ∨ N b) W w' := by
 refine hc.mono fun e w' ⟨N', h1, h0, h2, h3⟩ => ⟨N', h1, ⟨h.kept.trans (h3.less fun b hb => .inl hb), ?_, ?_, h2.less fun b hb => ?_, fun b hb => ?_, h.lt, h.nk, h.ml⟩, h3.less fun b hb => hb.elim .inl (fun h => .inr (.inl h))⟩
 ·rw [h3.block _ (.inr (.inr (.inl rfl)))]; exact h.b0
 ·obtain ⟨cur, hg, hc⟩ := h.b1
  exact ⟨cur, by rw [h3.block _ (.inr (.inr (.inr rfl)))]; exact hg, hc⟩
 ·rcases hb with hb | (hb | hb) | hb
  ·exact .inl (.inl hb)
  ·exact .inl (.inr (.inl hb))
  ·exact .inr hb
  ·exact .inl (.inr (.inr hb))
 ·rcases hb with hb | hb
  ·exact h.new b hb
  ·have h4 := h0 b hb
   have h5 := (Array.getElem?_eq_some_iff.1 h.b0).1
   omega
theorem Fm.set1 (h : Fm K N w t p mb lo cur0 cs W st) (k i : Nat) (v : Value) (hk : k = lo + i) (hi : i < cs.length) : ∃ W', W.setCell ⟨mb, k, none⟩ v = W' ∧ Fm K N w t p mb lo cur0 (cs.set i v) W' st ∧ Kept (fun b => K b ∨ N b) W W' := by
 refine ⟨_, rfl, ?_⟩
 subst hk
 obtain ⟨cur, hg, hc1, hc2⟩ := h.b1
 have hs := set_size (k := lo + i) hg v
 have ho : ∀ b, b ≠ mb → (W.setCell ⟨mb, lo + i, none⟩ v).heap[b]? = W.heap[b]? := fun b hb => set_other hg v hb
 have hml := h.ml
 have hsz : lo + i < cur.size := by
  have := hc1 i cs[i] (List.getElem?_eq_getElem hi)
  exact (Array.getElem?_eq_some_iff.1 this).1
 refine ⟨⟨h.kept.set hg v h.nk, ?_, ⟨cur.setIfInBounds (lo + i) v, ?_, fun j u hj => ?_, fun k hk => ?_⟩, ?_, h.new, h.lt, h.nk, h.ml⟩, (Kept.refl _ W).set hg v (fun e => e.elim h.nk (fun e => by have := h.new _ e; omega))⟩
 ·rw [ho _ (by omega)]; exact h.b0
 ·rw [setCell_eq_setRow W _ (lo + i) _ 63 (0, 0) v hg]; exact setRow_heap W _ _ _ 63 _ hg
 ·by_cases e : i = j
  ·subst e
   rw [List.getElem?_set_self hi] at hj
   rw [Array.getElem?_setIfInBounds_self_of_lt hsz]
   exact hj
  ·rw [List.getElem?_set_ne e] at hj
   rw [Array.getElem?_setIfInBounds_ne (by omega)]
   exact hc1 j u hj
 ·rw [List.length_set] at hk
  rw [Array.getElem?_setIfInBounds_ne (by omega)]
  exact hc2 k hk
 ·exact h.port.but hs (fun b hb => ho b (fun e => hb (.inr (.inr (.inr e)))))
theorem Fm.fin (h : Fm K N w t p mb lo cur0 cs W st) : (∀ b, N b → w.heap.size ≤ b) ∧ (∃ cur, W.heap[mb]? = some (.cells cur 63 (0, 0)) ∧ CurAt cur0 cur lo cs) ∧ PortIs (fun b => (K b ∨ N b) ∨ b = mb) W t p st ∧ Kept K w W :=
 ⟨fun b hb => by have := h.new b hb; omega, h.b1, h.port.less fun b hb => hb.elim (fun h => h.elim .inl (fun h => .inr (.inl h))) (fun h => .inr (.inr (.inr h))), h.kept⟩
end
theorem Fm.drew {K N : Nat → Prop} {w W : World} {t p mb lo : Nat} {cur0 : Array Value} {cs : List Value} {st : St} (h : Fm K N w t p mb lo cur0 cs W st) : Fm K N w t p mb lo cur0 cs W.drew st := ⟨h.kept.drew, h.b0, h.b1, h.port.drew, h.new, h.lt, h.nk, h.ml⟩
theorem via {G : Prop} {A Q : World → Prop} (h1 : (∀ W, A W → Q W) → G) (h2 : ∀ W, A W → Q W) : G := h1 h2
theorem viaN {G : Prop} {A Q : (Nat → Prop) → Option Addr → Nat → World → Prop} (h1 : (∀ N q c W, A N q c W → Q N q c W) → G) (h2 : ∀ N q c W, A N q c W → Q N q c W) : G := h1 h2
/-- What a field's function does to a message. -/
def FieldC {α : Type} (rel : Rel α) (lo sz : Nat) (fP : St → α → α × St) (c t p F : Nat) : Prop :=
 ∀ (K D : Nat → Prop) (W : World) (st : St) (mb : Nat) (cur : Array Value) (cs : List Value) (x : α), Tabs K W → ¬ K mb → W.heap[mb]? = some (.cells cur 63 (0, 0)) → (∀ b, D b → K b) → cs.length = sz → (∀ i u, cs[i]? = some u → cur[lo + i]? = some u) → rel D W cs x →
  PortIs (fun b => K b ∨ b = mb) W t p st → max st.len 65536 + c ≤ 990000 →
  Calls Tryz.prog F #[wk t p, .pointer (some ⟨mb, 0, none⟩)] W fun e w' => e = .returned (.tuple #[]) ∧ ∃ (N : Nat → Prop) (cur' : Array Value) (cs' : List Value), (∀ b, N b → W.heap.size ≤ b) ∧ w'.heap[mb]? = some (.cells cur' 63 (0, 0)) ∧ cs'.length = sz ∧ CurAt cur cur' lo cs' ∧ rel (fun b => D b ∨ N b) w' cs' (fP st x).1 ∧ PortIs (fun b => (K b ∨ N b) ∨ b = mb) w' t p (fP st x).2 ∧ Kept K W w'
def rNum : Rel Nat := fun K W cs x => cs = [.int .u64 (x : Int)] ∧ x < 18446744073709551616
def rBoo : Rel Bool := fun K W cs x => cs = [.bool x] ∧ True
def rVrs : Rel Vrs := fun K W cs x => cs = [.int .u64 (x.b : Int), .int .u64 (x.l : Int)] ∧ x.b < 18446744073709551616 ∧ x.l < 18446744073709551616
def rRws : Rel (List (List Val)) := fun K W cs x => ∃ v, cs = [v] ∧ ListIs rRow 1 24 K W v x
def rTbls : Rel (List Tbl) := fun K W cs x => ∃ v, cs = [v] ∧ ListIs rTbl 3 64 K W v x
def rClms : Rel (List Clm) := fun K W cs x => ∃ v, cs = [v] ∧ ListIs rClm 5 80 K W v x
/-- All of a file but its rows. -/
structure Fh where
 t : ByteArray
 v : Vrs
 s : Int
 c : List Cl
def rFh : Rel Fh := fun K W cs x => ∃ v, cs = [.string x.t, .int .u64 (x.v.b : Int), .int .u64 (x.v.l : Int), .int .i64 x.s, v] ∧ small x.t ∧ okV x.v ∧ I64 x.s ∧ ListIs rCl 2 24 K W v x.c
def rBnd : Rel Bnd := fun K W cs x => ∃ v1 v2 v3 v4 v5, cs = [.string x.t, .string x.j, .int .i64 x.w, .int .i64 x.l, .int .i64 x.r, v1, v2, v3, .bool x.gr, v4, v5] ∧ small x.t ∧ small x.j ∧ I64 x.w ∧ I64 x.l ∧ I64 x.r ∧ ListIs rStp 3 32 K W v1 x.wh ∧ ListIs rInt 1 8 K W v2 x.g ∧ ListIs rItm 2 32 K W v3 x.i ∧ ListIs rTxt 1 16 K W v4 x.nm ∧ ListIs rKnd 1 1 K W v5 x.kd
def rFrg : Rel Frg := fun K W cs x => ∃ c1 c2 v, cs = [.int .i64 x.id, .int .i64 x.nd] ++ c1 ++ c2 ++ [.bool x.raw, .int .i64 x.by_, v] ∧ I64 x.id ∧ I64 x.nd ∧ rSr K W c1 x.l ∧ rSr K W c2 x.r ∧ I64 x.by_ ∧ ListIs rInt 1 8 K W v x.to
def fhP (st : St) (f : Fh) : Fh × St :=
 let a := txtP st f.t
 let b := vrsP a.2 f.v
 let c := longP b.2 f.s
 let d := clsP c.2 f.c
 (⟨a.1, b.1, c.1, d.1⟩, d.2)
end Go.Proofs.YtajomnfeicfdlaaGreatDoor
