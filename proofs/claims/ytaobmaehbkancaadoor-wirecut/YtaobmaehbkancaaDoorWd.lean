/- What the ports' own functions answer: fail, failed, the writer's octet, the blank's three. -/
import Derived.Test.YtaobmaehbkancaaDoorWc
namespace Go.Proofs.YtaobmaehbkancaaDoor
open Go.Shelf Go.RowKit Go.Lib
set_option linter.unusedVariables false
set_option linter.unusedSimpArgs false
attribute [local go_sem ↓] Go.wp_at_zero Go.wp_at_succ
theorem set0_two {W : World} {g : Nat} {a b : Value} {t : TypeId} (hg : W.heap[g]? = some (.cells #[a, b] t (0, 0))) (v : Value) : (W.setCell ⟨g, 0, none⟩ v).heap[g]? = some (.cells #[v, b] t (0, 0)) := by
  rw [setCell_eq_setRow W g 0 _ t (0, 0) v hg]
  exact setRow_heap W g _ _ t _ hg
theorem set1_two {W : World} {g : Nat} {a b : Value} {t : TypeId} (hg : W.heap[g]? = some (.cells #[a, b] t (0, 0))) (v : Value) : (W.setCell ⟨g, 1, none⟩ v).heap[g]? = some (.cells #[a, v] t (0, 0)) := by
  rw [setCell_eq_setRow W g 1 _ t (0, 0) v hg]
  exact setRow_heap W g _ _ t _ hg
theorem set0_one {W : World} {g : Nat} {a : Value} {t : TypeId} (hg : W.heap[g]? = some (.cells #[a] t (0, 0))) (v : Value) : (W.setCell ⟨g, 0, none⟩ v).heap[g]? = some (.cells #[v] t (0, 0)) := by
  rw [setCell_eq_setRow W g 0 _ t (0, 0) v hg]
  exact setRow_heap W g _ _ t _ hg
theorem set_other {W : World} {g k b : Nat} {cur : Array Value} {t : TypeId} {fz : Nat × Nat} (hg : W.heap[g]? = some (.cells cur t fz)) (v : Value) (hn : b ≠ g) : (W.setCell ⟨g, k, none⟩ v).heap[b]? = W.heap[b]? := by
  rw [setCell_eq_setRow W g k cur t fz v hg]
  exact setRow_other W g b _ (fun e => hn e)
theorem set_size {W : World} {g k : Nat} {cur : Array Value} {t : TypeId} {fz : Nat × Nat} (hg : W.heap[g]? = some (.cells cur t fz)) (v : Value) : (W.setCell ⟨g, k, none⟩ v).heap.size = W.heap.size := by
  rw [setCell_eq_setRow W g k cur t fz v hg]
  simp
theorem cellR {W : World} {g k : Nat} {cur : Array Value} {t : TypeId} (hg : W.heap[g]? = some (.cells cur t (0, 0))) {v : Value} (h : cur[k]? = some v) : W.cell? ⟨g, k, none⟩ = some v := by simp [World.cell?, hg, h]
/-- What a port's found cell is. -/
theorem PortIs.found {K : Nat → Prop} {W : World} {t p : Nat} {st : St} (h : PortIs K W t p st) : ∃ cur e f, W.heap[p]? = some (.cells cur e (0, 0)) ∧ cur[0]? = some (.bool f) := by
  have := h.is
  cases st using St.three with
  | wr b f => obtain ⟨_, v, h1, _⟩ := this; exact ⟨_, _, f, h1, rfl⟩
  | bl f => exact ⟨_, _, f, this.2, rfl⟩
  | rd r f => exact ⟨_, _, f, this.2.2, rfl⟩
theorem PortIs.failed {K : Nat → Prop} {W : World} {t p : Nat} {st : St} (h : PortIs K W t p st) : PortIs K (W.setCell ⟨p, 0, none⟩ (.bool true)) t p (failP st) := by
  obtain ⟨cur, e, f0, hg, _⟩ := h.found
  have hs := set_size (k := 0) hg (.bool true)
  refine ⟨h.out, fun b hb => by rw [hs]; exact h.lt b hb, ?_⟩
  have := h.is
  cases st using St.three with
  | wr b f =>
    obtain ⟨h0, v, h1, h2, h3⟩ := this
    exact ⟨h0, v, set0_two h1 _, ownsRow_of_block h2 (fun g hg' => set_other h1 _ (h3 g hg').2), h3⟩
  | bl f => exact ⟨this.1, set0_one this.2 _⟩
  | rd r f => exact ⟨this.1, this.2.1, set0_two this.2.2 _⟩
set_option maxHeartbeats 1000000 in
theorem fail_any (K : Nat → Prop) (t p : Nat) (st : St) (w : World) (h : PortIs K w t p st) :
    Calls Tryd.prog 94 #[.pointer (some ⟨p, 0, none⟩)] w fun e w' => e = .returned (.tuple #[]) ∧ PortIs K w' t p (failP st) ∧ Kept K w w' := by
  obtain ⟨cur, e, f0, hg, h0⟩ := h.found
  have c0 := cellR hg h0
  have fz := frozen_zero hg 0
  have HP : Hid (PortIs K (w.setCell ⟨p, 0, none⟩ (.bool true)) t p (failP st)) := h.failed
  have HK : Hid (Kept K w (w.setCell ⟨p, 0, none⟩ (.bool true))) := (Kept.refl K w).set hg _ h.out
  clear h hg h0
  go_enter Tryd.func94, Tryd.ntmps94
  go_wp2_with fail
  go_end0
  exact ⟨rfl, HP.out, HK.out⟩
/-- Which function tells whether a port has failed. -/
def fdF (t : Nat) : Nat := if t = 59 then 11 else 12
set_option maxHeartbeats 1000000 in
theorem failed_any (K : Nat → Prop) (t p : Nat) (st : St) (w : World) (h : PortIs K w t p st) :
    Calls Tryd.prog (fdF t) #[.pointer (some ⟨p, 0, none⟩)] w fun e w' => e = .returned (.bool (failedP st)) ∧ PortIs K w' t p st ∧ Kept K w w' := by
  have HP : Hid (∀ W, Below w.heap.size w W → PortIs K W t p st ∧ Kept K w W) := fun W hb => ⟨h.below hb, Kept.of_below hb h.lt⟩
  have his := h.is
  clear h
  cases st using St.three with
  | wr b f =>
    obtain ⟨rfl, v, h1, h2, h3⟩ := his
    show Calls Tryd.prog 11 _ _ _
    have c0 := cellR (k := 0) h1 rfl
    have c1 := cellR (k := 1) h1 rfl
    have hv : ∃ q c, v = .slice q b.length c := by
      rcases h2.2 with ⟨rfl, h0⟩ | ⟨g, cap, cur, rfl, _⟩
      · exact ⟨none, 0, by rw [h0]⟩
      · exact ⟨_, _, rfl⟩
    obtain ⟨q, c, rfl⟩ := hv
    clear h2 h3 h1
    cases f with
    | true =>
      have HE : Hid (failedP (.wr b true) = true) := by show _ = _; simp [failedP]
      go_enter Tryd.func11, Tryd.ntmps11
      go_wp2_with fail
      go_ret
      exact ⟨by rw [HE.out]; rfl, HP.out _ (Below.refl _ _)⟩
    | false =>
      by_cases hl : 65536 < b.length
      · have HE : Hid (failedP (.wr b false) = true) := by show _ = _; simp [failedP, hl]
        have z0 : (65536 : Int) < (b.length : Int) := by omega
        clear hl
        go_enter Tryd.func11, Tryd.ntmps11
        go_wp2_with fail
        go_ret
        exact ⟨by rw [HE.out]; rfl, HP.out _ (Below.refl _ _)⟩
      · have HE : Hid (failedP (.wr b false) = false) := by show _ = _; simp [failedP]; omega
        have z0 : ¬ (65536 : Int) < (b.length : Int) := by omega
        clear hl
        go_enter Tryd.func11, Tryd.ntmps11
        go_wp2_with fail
        go_ret
        exact ⟨by rw [HE.out]; rfl, HP.out _ (Below.refl _ _)⟩
  | bl f =>
    obtain ⟨rfl, h1⟩ := his
    show Calls Tryd.prog 12 _ _ _
    have c0 := cellR (k := 0) h1 rfl
    clear h1
    go_enter Tryd.func12, Tryd.ntmps12
    go_wp2_with fail
    go_ret
    exact ⟨rfl, HP.out _ (Below.refl _ _)⟩
  | rd r f =>
    obtain ⟨rfl, hr, h1⟩ := his
    show Calls Tryd.prog 12 _ _ _
    have c0 := cellR (k := 0) h1 rfl
    clear h1
    go_enter Tryd.func12, Tryd.ntmps12
    go_wp2_with fail
    go_ret
    exact ⟨rfl, HP.out _ (Below.refl _ _)⟩
theorem u8c_one (l : List UInt8) : ∀ u ∈ u8c l, u.oneCell' = true := by
  intro u hu
  simp only [u8c, List.mem_map] at hu
  obtain ⟨x, _, rfl⟩ := hu
  rfl
theorem cell_one_new (w : World) (v : Value) (t : TypeId) : ∀ j u, [v][j]? = some u → (w.alloc (.cells #[v] t)).cell? ((⟨w.heap.size, 0, none⟩ : Addr).add j) = some u := by
  intro j u hj
  match j with
  | 0 =>
    simp at hj
    subst hj
    exact cellR (g := w.heap.size) (k := 0) (heap_alloc_new w _) rfl
  | j + 1 => simp at hj
theorem own_form {W : World} {base e size n : Nat} {v : Value} {xs : List Value} (h : W.ownsRow base e size v n xs) : ∃ q c, v = .slice q n c := by
  rcases h.2 with ⟨rfl, h0⟩ | ⟨g, cap, cur, rfl, _⟩
  · exact ⟨none, 0, by rw [h0]⟩
  · exact ⟨_, _, rfl⟩
set_option maxRecDepth 100000 in
set_option maxHeartbeats 1000000 in
theorem octW_any (K : Nat → Prop) (p : Nat) (b : List UInt8) (f : Bool) (k : Nat) (w : World) (h : PortIs K w 59 p (.wr b f)) (hk : k < 256) (hl : b.length ≤ 1000000) :
    Calls Tryd.prog 96 #[.pointer (some ⟨p, 0, none⟩), .int .u8 (k : Int)] w fun e w' => e = .returned (.int .u8 (k : Int)) ∧ PortIs K w' 59 p (.wr (b ++ [UInt8.ofNat k]) f) ∧ Kept K w w' := by
  obtain ⟨hout, hlt, _, v, h1, h2, h3⟩ := h
  obtain ⟨q0, c0, rfl⟩ := own_form h2
  have hp : p < w.heap.size := (Array.getElem?_eq_some_iff.1 h1).1
  have c1 := cellR (k := 1) h1 rfl
  obtain ⟨i0, hi0, hz0, hz1, hz2⟩ := info5
  have hz0' : Hid (i0.zero = some (.int .u8 0)) := hz0
  have HH1 : Hid (w.heap[p]? = some (.cells #[.bool f, .slice q0 b.length c0] 64 (0, 0))) := h1
  have HH2 : Hid (w.ownsRow 0 5 1 (.slice q0 b.length c0) b.length (u8c b)) := h2
  have HH3 : Hid (∀ g, (Value.slice q0 b.length c0).ownBlock = some g → ¬ K g ∧ g ≠ p) := h3
  have HLT : Hid (∀ b, K b → b < w.heap.size) := hlt
  have HO : Hid (¬ K p) := hout
  have HL : Hid (b.length ≤ 1000000) := hl
  have HC : Hid ([Value.int .u8 (k : Int)] = u8c [UInt8.ofNat k]) := by show _ = _; simp [u8c, Nat.mod_eq_of_lt hk]
  clear h1 h2 h3 hlt hout hl hz0
  go_enter Tryd.func96, Tryd.ntmps96
  go_wp2_with (at_builtin; go_loud (refine wpList_append_own_at _ rfl _ _ 62 rfl 0 5 i0 _ 1 1 Tryd.underlying62 hi0 hz0'.out hz1 hz2 rfl (by decide) (.slice q0 b.length c0) b.length (u8c b) rfl (ownsRow_of_block HH2.out (fun g hg => heap_alloc_old _ _ _ (ownsRow_lt HH2.out g hg))) ⟨_, 0, none⟩ 1 1 [.int .u8 (k : Int)] rfl rfl (cell_one_new _ _ _) (fun x hx => by simp at hx; subst hx; rfl) (by unfold maxLen; have := HL.out; omega) (by have := HL.out; omega) (by simp) ?_; intro v' w3 hown' hgrow3 hnil3 hob3; obtain ⟨q', c', rfl⟩ := own_form hown'; have hp3 : w3.heap[p]? = some (.cells #[.bool f, .slice q0 b.length c0] 64 (0, 0)) := (by rw [hgrow3.block p (by simp; omega) (fun e => (HH3.out p e.symm).2 rfl), heap_alloc_old _ _ _ hp]; exact HH1.out); have d1 := cellR (k := 1) hp3 rfl; have fz := frozen_zero hp3 1; have HP3 : Hid (w3.heap[p]? = some (.cells #[.bool f, .slice q0 b.length c0] 64 (0, 0))) := hp3; have HOW : Hid (w3.ownsRow 0 5 1 (.slice q' (b.length + 1) c') (b.length + 1) (u8c b ++ [.int .u8 (k : Int)])) := hown'; have HGR : Hid ((w.alloc (.cells #[.int .u8 (k : Int)] 5)).grownBy w3 (Value.slice q0 b.length c0).ownBlock) := hgrow3; have HOB : Hid ((Value.slice q' (b.length + 1) c').ownBlock = (Value.slice q0 b.length c0).ownBlock ∨ (Value.slice q' (b.length + 1) c').ownBlock = some (w.heap.size + 1)) := (by show _ ∨ _; simpa using hob3); clear hp3 hown' hgrow3 hnil3 hob3))
  go_ret
  have hne : ∀ g, (Value.slice q' (b.length + 1) c').ownBlock = some g → ¬ K g ∧ g ≠ p := fun g hg => by
    rcases HOB.out with e | e
    · exact HH3.out g (by rw [← e]; exact hg)
    · rw [e] at hg
      simp only [Option.some.injEq] at hg
      exact ⟨fun hk => by have := HLT.out g hk; omega, by omega⟩
  have hs3 : w.heap.size ≤ w3.heap.size := by have := HGR.out.size; simp at this; omega
  refine ⟨rfl, ⟨HO.out, fun x hx => by rw [set_size HP3.out]; exact Nat.lt_of_lt_of_le (HLT.out x hx) hs3, rfl, .slice q' (b.length + 1) c', set1_two HP3.out _, ?_, hne⟩, ?_⟩
  · refine ownsRow_of_block ?_ (fun g hg => set_other HP3.out _ (hne g hg).2)
    rw [u8c_append, ← HC.out, List.length_append]
    exact HOW.out
  · exact (((Kept.refl K w).alloc HLT.out _).grown HGR.out HLT.out (fun x hx => (HH3.out x hx).1)).set HP3.out _ HO.out
end Go.Proofs.YtaobmaehbkancaaDoor
