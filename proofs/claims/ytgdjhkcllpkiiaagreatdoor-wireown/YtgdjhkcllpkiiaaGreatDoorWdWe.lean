/- What the ports' own functions answer: fail, failed, the writer's octet, the blank's three. -/
import Derived.Test.YtgdjhkcllpkiiaaGreatDoorWc
namespace Go.Proofs.YtgdjhkcllpkiiaaGreatDoor
open Go.Shelf Go.RowKit Go.Lib
set_option linter.unusedVariables false
set_option linter.unusedSimpArgs false
attribute [local go_sem ↓] Go.wp_at_zero Go.wp_at_succ
theorem set0_two {W : World} {g : Nat} {a b : Value} {t : TypeId} (hg : W.heap[g]? = some (.cells #[a, b] t (0, 0))) (v : Value) : (W.setCell ⟨g, 0, none⟩ v).heap[g]? = some (.cells #[v, b] t (0, 0)) := by
  rw [setCell_eq_setRow W g 0 _ t (0, 0) v hg]
  exact setRow_heap W g _ _ t _ hg
theorem set1_two {W : World} {g : Nat} {a b : Value} {t : TypeId} (hg : W.heap[g]? = some (.cells #[a, b] t (0, 0))) (v : Value) : (W.setCell ⟨g, 1, none⟩ v).heap[g]? = some (.cells #[a, v] t (0, 0)) := by
  rw [setCell_eq_setRow W g 1 _ t (0, 0) v hg]
  exact setRow_heap W g _ _ t _ hg
theorem set0_one {W : World} {g : Nat} {a : Value} {t : TypeId} (hg : W.heap[g]? = some (.cells #[a] t (0, 0))) (v : Value) : (W.setCell ⟨g, 0, none⟩ v).heap[g]? = some (.cells #[v] t (0, 0)) := by
  rw [setCell_eq_setRow W g 0 _ t (0, 0) v hg]
  exact setRow_heap W g _ _ t _ hg
theorem set_other {W : World} {g k b : Nat} {cur : Array Value} {t : TypeId} {fz : Nat × Nat} (hg : W.heap[g]? = some (.cells cur t fz)) (v : Value) (hn : b ≠ g) : (W.setCell ⟨g, k, none⟩ v).heap[b]? = W.heap[b]? := by
  rw [setCell_eq_setRow W g k cur t fz v hg]
  exact setRow_other W g b _ (fun e => hn e)
theorem set_size {W : World} {g k : Nat} {cur : Array Value} {t : TypeId} {fz : Nat × Nat} (hg : W.heap[g]? = some (.cells cur t fz)) (v : Value) : (W.setCell ⟨g, k, none⟩ v).heap.size = W.heap.size := by
  rw [setCell_eq_setRow W g k cur t fz v hg]
  simp
theorem cellR {W : World} {g k : Nat} {cur : Array Value} {t : TypeId} (hg : W.heap[g]? = some (.cells cur t (0, 0))) {v : Value} (h : cur[k]? = some v) : W.cell? ⟨g, k, none⟩ = some v := by simp [World.cell?, hg, h]
/-- What a port's found cell is. -/
theorem PortIs.found {K : Nat → Prop} {W : World} {t p : Nat} {st : St} (h : PortIs K W t p st) : ∃ cur e f, W.heap[p]? = some (.cells cur e (0, 0)) ∧ cur[0]? = some (.bool f) := by
  have := h.is
  cases st using St.three with
  | wr b f => obtain ⟨_, v, h1, _⟩ := this; exact ⟨_, _, f, h1, rfl⟩
  | bl f => exact ⟨_, _, f, this.2, rfl⟩
  | rd r f => exact ⟨_, _, f, this.2.2, rfl⟩
theorem PortIs.failed {K : Nat → Prop} {W : World} {t p : Nat} {st : St} (h : PortIs K W t p st) : PortIs K (W.setCell ⟨p, 0, none⟩ (.bool true)) t p (failP st) := by
  obtain ⟨cur, e, f0, hg, _⟩ := h.found
  have hs := set_size (k := 0) hg (.bool true)
  refine ⟨h.out, fun b hb => by rw [hs]; exact h.lt b hb, fun e b hb hpb => (h.unf e b hb hpb).set, ?_⟩
  have := h.is
  cases st using St.three with
  | wr b f =>
    obtain ⟨h0, v, h1, h2, h3⟩ := this
    exact ⟨h0, v, set0_two h1 _, ownsRow_of_block h2 (fun g hg' => set_other h1 _ (h3 g hg').2), h3⟩
  | bl f => exact ⟨this.1, set0_one this.2 _⟩
  | rd r f => exact ⟨this.1, this.2.1, set0_two this.2.2 _⟩
set_option maxHeartbeats 1000000 in
theorem fail_any (K : Nat → Prop) (t p : Nat) (st : St) (w : World) (h : PortIs K w t p st) :
    Calls Tryz.prog 149 #[.pointer (some ⟨p, 0, none⟩)] w fun e w' => e = .returned (.tuple #[]) ∧ PortIs K w' t p (failP st) ∧ Kept K w w' := by
  obtain ⟨cur, e, f0, hg, h0⟩ := h.found
  have c0 := cellR hg h0
  have fz := frozen_zero hg 0
  have HP : Hid (PortIs K (w.setCell ⟨p, 0, none⟩ (.bool true)) t p (failP st)) := h.failed
  have HK : Hid (Kept K w (w.setCell ⟨p, 0, none⟩ (.bool true))) := (Kept.refl K w).set hg _ h.out
  clear h hg h0
  go_enter Tryz.func149, Tryz.ntmps149
  go_wp2_with fail
  go_end0
  exact ⟨rfl, HP.out, HK.out⟩
/-- Which function tells whether a port has failed. -/
def fdF (t : Nat) : Nat := if t = 77 then 24 else 25
set_option maxHeartbeats 1000000 in
theorem failed_any (K : Nat → Prop) (t p : Nat) (st : St) (w : World) (h : PortIs K w t p st) :
    Calls Tryz.prog (fdF t) #[.pointer (some ⟨p, 0, none⟩)] w fun e w' => e = .returned (.bool (failedP st)) ∧ PortIs K w' t p st ∧ Kept K w w' := by
  have HP : Hid (∀ W, Below w.heap.size w W → PortIs K W t p st ∧ Kept K w W) := fun W hb => ⟨h.below hb, Kept.of_below hb h.lt⟩
  have his := h.is
  clear h
  cases st using St.three with
  | wr b f =>
    obtain ⟨rfl, v, h1, h2, h3⟩ := his
    show Calls Tryz.prog 24 _ _ _
    have c0 := cellR (k := 0) h1 rfl
    have c1 := cellR (k := 1) h1 rfl
    have hv : ∃ q c, v = .slice q b.length c := by
      rcases h2.2 with ⟨rfl, h0⟩ | ⟨g, cap, cur, rfl, _⟩
      · exact ⟨none, 0, by rw [h0]⟩
      · exact ⟨_, _, rfl⟩
    obtain ⟨q, c, rfl⟩ := hv
    clear h2 h3 h1
    cases f with
    | true =>
      have HE : Hid (failedP (.wr b true) = true) := by show _ = _; simp [failedP]
      go_enter Tryz.func24, Tryz.ntmps24
      go_wp2_with fail
      go_ret
      exact ⟨by rw [HE.out]; rfl, HP.out _ (Below.refl _ _)⟩
    | false =>
      by_cases hl : 65536 < b.length
      · have HE : Hid (failedP (.wr b false) = true) := by show _ = _; simp [failedP, hl]
        have z0 : (65536 : Int) < (b.length : Int) := by omega
        clear hl
        go_enter Tryz.func24, Tryz.ntmps24
        go_wp2_with fail
        go_ret
        exact ⟨by rw [HE.out]; rfl, HP.out _ (Below.refl _ _)⟩
      · have HE : Hid (failedP (.wr b false) = false) := by show _ = _; simp [failedP]; omega
        have z0 : ¬ (65536 : Int) < (b.length : Int) := by omega
        clear hl
        go_enter Tryz.func24, Tryz.ntmps24
        go_wp2_with fail
        go_ret
        exact ⟨by rw [HE.out]; rfl, HP.out _ (Below.refl _ _)⟩
  | bl f =>
    obtain ⟨rfl, h1⟩ := his
    show Calls Tryz.prog 25 _ _ _
    have c0 := cellR (k := 0) h1 rfl
    clear h1
    go_enter Tryz.func25, Tryz.ntmps25
    go_wp2_with fail
    go_ret
    exact ⟨rfl, HP.out _ (Below.refl _ _)⟩
  | rd r f =>
    obtain ⟨rfl, hr, h1⟩ := his
    show Calls Tryz.prog 25 _ _ _
    have c0 := cellR (k := 0) h1 rfl
    clear h1
    go_enter Tryz.func25, Tryz.ntmps25
    go_wp2_with fail
    go_ret
    exact ⟨rfl, HP.out _ (Below.refl _ _)⟩
theorem u8c_one (l : List UInt8) : ∀ u ∈ u8c l, u.oneCell' = true := by
  intro u hu
  simp only [u8c, List.mem_map] at hu
  obtain ⟨x, _, rfl⟩ := hu
  rfl
theorem cell_one_new (w : World) (v : Value) (t : TypeId) : ∀ j u, [v][j]? = some u → (w.alloc (.cells #[v] t)).cell? ((⟨w.heap.size, 0, none⟩ : Addr).add j) = some u := by
  intro j u hj
  match j with
  | 0 =>
    simp at hj
    subst hj
    exact cellR (g := w.heap.size) (k := 0) (heap_alloc_new w _) rfl
  | j + 1 => simp at hj
theorem own_form {W : World} {base e size n : Nat} {v : Value} {xs : List Value} (h : W.ownsRow base e size v n xs) : ∃ q c, v = .slice q n c := by
  rcases h.2 with ⟨rfl, h0⟩ | ⟨g, cap, cur, rfl, _⟩
  · exact ⟨none, 0, by rw [h0]⟩
  · exact ⟨_, _, rfl⟩
set_option maxRecDepth 100000 in
set_option maxHeartbeats 1000000 in
theorem octW_any (K : Nat → Prop) (p : Nat) (b : List UInt8) (f : Bool) (k : Nat) (w : World) (h : PortIs K w 77 p (.wr b f)) (hk : k < 256) (hl : b.length ≤ 1000000) :
    Calls Tryz.prog 151 #[.pointer (some ⟨p, 0, none⟩), .int .u8 (k : Int)] w fun e w' => e = .returned (.int .u8 (k : Int)) ∧ PortIs K w' 77 p (.wr (b ++ [UInt8.ofNat k]) f) ∧ Kept K w w' := by
  obtain ⟨hout, hlt, hun, _, v, h1, h2, h3⟩ := h
  clear hun
  obtain ⟨q0, c0, rfl⟩ := own_form h2
  have hp : p < w.heap.size := (Array.getElem?_eq_some_iff.1 h1).1
  have c1 := cellR (k := 1) h1 rfl
  obtain ⟨i0, hi0, hz0, hz1, hz2⟩ := info5
  have hz0' : Hid (i0.zero = some (.int .u8 0)) := hz0
  have HH1 : Hid (w.heap[p]? = some (.cells #[.bool f, .slice q0 b.length c0] 82 (0, 0))) := h1
  have HH2 : Hid (w.ownsRow 0 5 1 (.slice q0 b.length c0) b.length (u8c b)) := h2
  have HH3 : Hid (∀ g, (Value.slice q0 b.length c0).ownBlock = some g → ¬ K g ∧ g ≠ p) := h3
  have HLT : Hid (∀ b, K b → b < w.heap.size) := hlt
  have HO : Hid (¬ K p) := hout
  have HL : Hid (b.length ≤ 1000000) := hl
  have HC : Hid ([Value.int .u8 (k : Int)] = u8c [UInt8.ofNat k]) := by show _ = _; simp [u8c, Nat.mod_eq_of_lt hk]
  clear h1 h2 h3 hlt hout hl hz0
  go_enter Tryz.func151, Tryz.ntmps151
  go_wp2_with (at_builtin; go_loud (refine wpList_append_own_at _ rfl _ _ 80 rfl 0 5 i0 _ 1 1 Tryz.underlying80 hi0 hz0'.out hz1 hz2 rfl (by decide) (.slice q0 b.length c0) b.length (u8c b) rfl (ownsRow_of_block HH2.out (fun g hg => heap_alloc_old _ _ _ (ownsRow_lt HH2.out g hg))) ⟨_, 0, none⟩ 1 1 [.int .u8 (k : Int)] rfl rfl (cell_one_new _ _ _) (fun x hx => by simp at hx; subst hx; rfl) (by unfold maxLen; have := HL.out; omega) (by have := HL.out; omega) (by simp) ?_; intro v' w3 hown' hgrow3 hnil3 hob3; obtain ⟨q', c', rfl⟩ := own_form hown'; have hp3 : w3.heap[p]? = some (.cells #[.bool f, .slice q0 b.length c0] 82 (0, 0)) := (by rw [hgrow3.block p (by simp; omega) (fun e => (HH3.out p e.symm).2 rfl), heap_alloc_old _ _ _ hp]; exact HH1.out); have d1 := cellR (k := 1) hp3 rfl; have fz := frozen_zero hp3 1; have HP3 : Hid (w3.heap[p]? = some (.cells #[.bool f, .slice q0 b.length c0] 82 (0, 0))) := hp3; have HOW : Hid (w3.ownsRow 0 5 1 (.slice q' (b.length + 1) c') (b.length + 1) (u8c b ++ [.int .u8 (k : Int)])) := hown'; have HGR : Hid ((w.alloc (.cells #[.int .u8 (k : Int)] 5)).grownBy w3 (Value.slice q0 b.length c0).ownBlock) := hgrow3; have HOB : Hid ((Value.slice q' (b.length + 1) c').ownBlock = (Value.slice q0 b.length c0).ownBlock ∨ (Value.slice q' (b.length + 1) c').ownBlock = some (w.heap.size + 1)) := (by show _ ∨ _; simpa using hob3); clear hp3 hown' hgrow3 hnil3 hob3))
  go_ret
  have hne : ∀ g, (Value.slice q' (b.length + 1) c').ownBlock = some g → ¬ K g ∧ g ≠ p := fun g hg => by
    rcases HOB.out with e | e
    · exact HH3.out g (by rw [← e]; exact hg)
    · rw [e] at hg
      simp only [Option.some.injEq] at hg
      exact ⟨fun hk => by have := HLT.out g hk; omega, by omega⟩
  have hs3 : w.heap.size ≤ w3.heap.size := by have := HGR.out.size; simp at this; omega
  refine ⟨rfl, ⟨HO.out, fun x hx => by rw [set_size HP3.out]; exact Nat.lt_of_lt_of_le (HLT.out x hx) hs3, fun e => absurd e (by decide), rfl, .slice q' (b.length + 1) c', set1_two HP3.out _, ?_, hne⟩, ?_⟩
  · refine ownsRow_of_block ?_ (fun g hg => set_other HP3.out _ (hne g hg).2)
    rw [u8c_append, ← HC.out, List.length_append]
    exact HOW.out
  · exact (((Kept.refl K w).alloc HLT.out _).grown HGR.out HLT.out (fun x hx => (HH3.out x hx).1)).set HP3.out _ HO.out
end Go.Proofs.YtgdjhkcllpkiiaaGreatDoor
/- What the blank's and the writer's other functions answer. -/
namespace Go.Proofs.YtgdjhkcllpkiiaaGreatDoor
open Go.Shelf Go.RowKit Go.Lib
set_option linter.unusedVariables false
set_option linter.unusedSimpArgs false
attribute [local go_sem ↓] Go.wp_at_zero Go.wp_at_succ
set_option maxHeartbeats 1000000 in
theorem numB_any (K : Nat → Prop) (p : Nat) (f : Bool) (n : Nat) (w : World) (h : PortIs K w 83 p (.bl f)) :
    Calls Tryz.prog 153 #[.pointer (some ⟨p, 0, none⟩), .int .u64 (n : Int)] w fun e w' => e = .returned (.int .u64 (n : Int)) ∧ PortIs K w' 83 p (if n = 0 then .bl f else .bl true) ∧ Kept K w w' := by
  have C : Hid (Calls Tryz.prog 149 #[.pointer (some ⟨p, 0, none⟩)] w fun e w' => e = .returned (.tuple #[]) ∧ PortIs K w' 83 p (.bl true) ∧ Kept K w w') := fail_any K 83 p (.bl f) w h
  have HP : Hid (PortIs K w 83 p (.bl f)) := h
  clear h
  by_cases h0 : n = 0
  · subst h0
    rw [if_pos rfl]
    go_enter Tryz.func153, Tryz.ntmps153
    go_wp2_with fail
    go_ret
    exact ⟨rfl, HP.out, Kept.refl _ _⟩
  · rw [if_neg h0]
    have z0 : ((n : Int) != 0) = true := by simp; omega
    clear h0
    go_enter Tryz.func153, Tryz.ntmps153
    go_wp2_with fail
    refine C.out.mono ?_
    rintro e w1 ⟨rfl, h1, h2⟩
    have H1 : Hid (PortIs K w1 83 p (.bl true) ∧ Kept K w w1) := ⟨h1, h2⟩
    clear h1 h2 C
    go_wp2_with fail
    go_ret
    exact ⟨rfl, H1.out⟩
set_option maxHeartbeats 1000000 in
theorem octB_any (K : Nat → Prop) (p : Nat) (f : Bool) (k : Nat) (w : World) (h : PortIs K w 83 p (.bl f)) (hk : k < 256) :
    Calls Tryz.prog 154 #[.pointer (some ⟨p, 0, none⟩), .int .u8 (k : Int)] w fun e w' => e = .returned (.int .u8 (k : Int)) ∧ PortIs K w' 83 p (if k = 0 then .bl f else .bl true) ∧ Kept K w w' := by
  have C : Hid (Calls Tryz.prog 153 #[.pointer (some ⟨p, 0, none⟩), .int .u64 (k : Int)] w fun e w' => e = .returned (.int .u64 (k : Int)) ∧ PortIs K w' 83 p (if k = 0 then .bl f else .bl true) ∧ Kept K w w') := numB_any K p f k w h
  obtain ⟨st, hst⟩ : ∃ st, (if k = 0 then St.bl f else .bl true) = st := ⟨_, rfl⟩
  rw [hst] at C ⊢
  clear h hst
  go_enter Tryz.func154, Tryz.ntmps154
  go_wp2_with fail
  refine C.out.mono ?_
  rintro e w1 ⟨rfl, h1, h2⟩
  have H1 : Hid (PortIs K w1 83 p st ∧ Kept K w w1) := ⟨h1, h2⟩
  clear h1 h2 C
  go_wp2_with fail
  go_ret
  exact ⟨rfl, H1.out⟩
set_option maxHeartbeats 1000000 in
theorem txtB_any (K : Nat → Prop) (p : Nat) (f : Bool) (s : ByteArray) (w : World) (h : PortIs K w 83 p (.bl f)) (hs : s.size ≤ 140737488355328) :
    Calls Tryz.prog 155 #[.pointer (some ⟨p, 0, none⟩), .string s] w fun e w' => e = .returned (.string s) ∧ PortIs K w' 83 p (if s.size = 0 then .bl f else .bl true) ∧ Kept K w w' := by
  have C : Hid (Calls Tryz.prog 153 #[.pointer (some ⟨p, 0, none⟩), .int .u64 (s.size : Int)] w fun e w' => e = .returned (.int .u64 (s.size : Int)) ∧ PortIs K w' 83 p (if s.size = 0 then .bl f else .bl true) ∧ Kept K w w') := numB_any K p f s.size w h
  obtain ⟨st, hst⟩ : ∃ st, (if s.size = 0 then St.bl f else .bl true) = st := ⟨_, rfl⟩
  rw [hst] at C ⊢
  clear h hst
  go_enter Tryz.func155, Tryz.ntmps155
  go_wp2_with fail
  refine C.out.mono ?_
  rintro e w1 ⟨rfl, h1, h2⟩
  have H1 : Hid (PortIs K w1 83 p st ∧ Kept K w w1) := ⟨h1, h2⟩
  clear h1 h2 C
  go_wp2_with fail
  go_ret
  exact ⟨rfl, H1.out⟩
theorem vnF_step (g left : Nat) (h : 128 ≤ left) : vnF (g + 1) left = UInt8.ofNat (left % 128 + 128) :: vnF g (left / 128) := by
  rw [vnF, if_neg (by omega)]
theorem vnF_last (g left : Nat) (h : left < 128) : vnF g left = [UInt8.ofNat left] := by
  cases g with
  | zero => rfl
  | succ g => rw [vnF, if_pos h]
set_option maxRecDepth 100000 in
set_option maxHeartbeats 1000000 in
theorem numW_any (K : Nat → Prop) (p : Nat) (b : List UInt8) (f : Bool) (n : Nat) (w : World) (h : PortIs K w 77 p (.wr b f)) (hn : n < 18446744073709551616) (hl : b.length + 20 ≤ 1000000) :
    Calls Tryz.prog 150 #[.pointer (some ⟨p, 0, none⟩), .int .u64 (n : Int)] w fun e w' => e = .returned (.int .u64 (n : Int)) ∧ PortIs K w' 77 p (.wr (b ++ vn n) f) ∧ Kept K w w' := by
  have C : Hid (∀ (W : World) (c : List UInt8) (k : Nat), PortIs K W 77 p (.wr c f) → k < 256 → c.length ≤ 1000000 → Calls Tryz.prog 151 #[.pointer (some ⟨p, 0, none⟩), .int .u8 (k : Int)] W fun e w' => e = .returned (.int .u8 (k : Int)) ∧ PortIs K w' 77 p (.wr (c ++ [UInt8.ofNat k]) f) ∧ Kept K W w') := fun W c k h1 h2 h3 => octW_any K p c f k W h1 h2 h3
  have HP : Hid (PortIs K w 77 p (.wr b f)) := h
  have HL : Hid (b.length + 20 ≤ 1000000) := hl
  have HN : Hid (n < 18446744073709551616) := hn
  clear h hl hn
  go_enter Tryz.func150, Tryz.ntmps150
  go_wp2_with fail
  go_loopg [5] 9 (fun gf s3 wx => ∃ (left : Nat) (pre : List UInt8), s3 = .int .u64 (left : Int) ∧ Hid (vn n = pre ++ vnF gf left) ∧ Hid (left < 2 * 128 ^ gf) ∧ Hid (pre.length + gf = 9) ∧ Hid (PortIs K wx 77 p (.wr (b ++ pre) f) ∧ Kept K w wx))
  case atStart => exact ⟨n, [], rfl, rfl, by have := HN.out; show _ < _; omega, rfl, by rw [List.append_nil]; exact ⟨HP.out, Kept.refl _ _⟩⟩
  case round =>
    obtain ⟨left, pre, rfl, H1, H2, H3, H4⟩ := hrel
    have h64 : left < 18446744073709551616 := by
      have h1 := H2.out
      have h2 : 128 ^ gk ≤ 128 ^ 9 := Nat.pow_le_pow_right (by decide) (by have := H3.out; omega)
      have h3 : (128 : Nat) ^ 9 = 9223372036854775808 := by decide
      omega
    by_cases hb : 128 ≤ left
    · obtain ⟨g', rfl⟩ : ∃ g', gk = g' + 1 := by
        cases gk with
        | zero => exact absurd H2.out (by show ¬ left < 2; omega)
        | succ g' => exact ⟨g', rfl⟩
      have z0 : (128 : Int) ≤ (left : Int) := by omega
      have C1 : Hid (Calls Tryz.prog 151 #[.pointer (some ⟨p, 0, none⟩), .int .u8 ((left : Int) % 128 + 128)] wr fun e w' => e = .returned (.int .u8 ((left : Int) % 128 + 128)) ∧ PortIs K w' 77 p (.wr (b ++ pre ++ [UInt8.ofNat (left % 128 + 128)]) f) ∧ Kept K wr w') := by
        have := C.out wr (b ++ pre) (left % 128 + 128) H4.out.1 (by omega) (by have h1 := HL.out; have h2 := H3.out; simp; omega)
        rw [show ((left % 128 + 128 : Nat) : Int) = (left : Int) % 128 + 128 by omega] at this
        exact this
      have HR : Hid (128 ≤ left) := hb
      clear hb
      go_wp2_with fail
      refine C1.out.mono ?_
      rintro e w1 ⟨rfl, h1, h2⟩
      have H5 : Hid (PortIs K w1 77 p (.wr (b ++ pre ++ [UInt8.ofNat (left % 128 + 128)]) f) ∧ Kept K w w1) := ⟨h1, H4.out.2.trans h2⟩
      clear h1 h2 C1 H4
      go_wp2_with fail
      go_roundg g'
      case measure => omega
      case rel =>
        refine ⟨left / 128, pre ++ [UInt8.ofNat (left % 128 + 128)], by go_num, ?_, ?_, ?_, ?_⟩
        · show _ = _
          rw [H1.out, vnF_step _ _ HR.out]
          simp
        · show _ < _
          have h1 := H2.out
          rw [Nat.pow_succ] at h1
          omega
        · have h1 := H3.out
          show _ = _
          simp
          omega
        · rw [← List.append_assoc]
          exact H5.out
    · have z0 : ¬ (128 : Int) ≤ (left : Int) := by omega
      have C1 : Hid (Calls Tryz.prog 151 #[.pointer (some ⟨p, 0, none⟩), .int .u8 (left : Int)] wr fun e w' => e = .returned (.int .u8 (left : Int)) ∧ PortIs K w' 77 p (.wr (b ++ pre ++ [UInt8.ofNat left]) f) ∧ Kept K wr w') := C.out wr (b ++ pre) left H4.out.1 (by omega) (by have h1 := HL.out; have h2 := H3.out; simp; omega)
      have HE : Hid (b ++ vn n = b ++ pre ++ [UInt8.ofNat left]) := by
        show _ = _
        rw [H1.out, vnF_last _ _ (by omega), List.append_assoc]
      have hb2 : left < 128 := by omega
      clear hb
      go_wp2_with fail
      refine C1.out.mono ?_
      rintro e w1 ⟨rfl, h1, h2⟩
      have H5 : Hid (PortIs K w1 77 p (.wr (b ++ vn n) f) ∧ Kept K w w1) := by rw [HE.out]; exact ⟨h1, H4.out.2.trans h2⟩
      clear h1 h2 C1 H4
      go_wp2_with fail
      go_ret
      exact ⟨rfl, H5.out⟩
theorem u8c_str (s : ByteArray) : strCells s = u8c s.data.toList := rfl
set_option maxRecDepth 100000 in
set_option maxHeartbeats 1000000 in
theorem txtW_any (K : Nat → Prop) (p : Nat) (b : List UInt8) (f : Bool) (s : ByteArray) (w : World) (h : PortIs K w 77 p (.wr b f)) (hs : s.size ≤ 140737488355328) (hl : b.length + 3000 ≤ 1000000) :
    Calls Tryz.prog 152 #[.pointer (some ⟨p, 0, none⟩), .string s] w fun e w' => e = .returned (.string s) ∧ PortIs K w' 77 p (if 2048 < s.size then .wr b true else .wr (b ++ vn s.size ++ s.data.toList) f) ∧ Kept K w w' := by
  by_cases hb : 2048 < s.size
  · rw [if_pos hb]
    have C : Hid (Calls Tryz.prog 149 #[.pointer (some ⟨p, 0, none⟩)] w fun e w' => e = .returned (.tuple #[]) ∧ PortIs K w' 77 p (.wr b true) ∧ Kept K w w') := fail_any K 77 p (.wr b f) w h
    have z0 : (2048 : Int) < (s.size : Int) := by omega
    clear h hl hb
    go_enter Tryz.func152, Tryz.ntmps152
    go_wp2_with fail
    refine C.out.mono ?_
    rintro e w1 ⟨rfl, h1, h2⟩
    have H1 : Hid (PortIs K w1 77 p (.wr b true) ∧ Kept K w w1) := ⟨h1, h2⟩
    clear h1 h2 C
    go_wp2_with fail
    go_ret
    exact ⟨rfl, H1.out⟩
  · rw [if_neg hb]
    have C : Hid (Calls Tryz.prog 150 #[.pointer (some ⟨p, 0, none⟩), .int .u64 (s.size : Int)] w fun e w' => e = .returned (.int .u64 (s.size : Int)) ∧ PortIs K w' 77 p (.wr (b ++ vn s.size) f) ∧ Kept K w w') := numW_any K p b f s.size w h (by omega) (by omega)
    have z0 : ¬ (2048 : Int) < (s.size : Int) := by omega
    have HL : Hid (b.length + 3000 ≤ 1000000 ∧ s.size ≤ 2048) := ⟨hl, by omega⟩
    obtain ⟨i0, hi0, hz0, hz1, hz2⟩ := info5
    have hz0' : Hid (i0.zero = some (.int .u8 0)) := hz0
    clear h hl hb hz0
    go_enter Tryz.func152, Tryz.ntmps152
    go_wp2_with fail
    refine C.out.mono ?_
    rintro e w1 ⟨rfl, h1, hK1⟩
    obtain ⟨hout, hlt, hun, _, v, h1, h2, h3⟩ := h1
    clear hun
    obtain ⟨bb, hbb⟩ : ∃ bb, b ++ vn s.size = bb := ⟨_, rfl⟩
    have hbl : bb.length ≤ b.length + 10 := by rw [← hbb]; have := vn_length s.size; simp; omega
    rw [hbb] at h2
    obtain ⟨q0, c0, rfl⟩ := own_form h2
    have hp : p < w1.heap.size := (Array.getElem?_eq_some_iff.1 h1).1
    have c1 := cellR (k := 1) h1 rfl
    have HH1 : Hid (w1.heap[p]? = some (.cells #[.bool f, .slice q0 bb.length c0] 82 (0, 0))) := h1
    have HH2 : Hid (w1.ownsRow 0 5 1 (.slice q0 bb.length c0) bb.length (u8c bb)) := h2
    have HH3 : Hid (∀ g, (Value.slice q0 bb.length c0).ownBlock = some g → ¬ K g ∧ g ≠ p) := h3
    have HLT : Hid (∀ b, K b → b < w1.heap.size) := hlt
    have HO : Hid (¬ K p) := hout
    have HK1 : Hid (Kept K w w1) := hK1
    have HLB : Hid (bb.length ≤ b.length + 10) := hbl
    have HBB : Hid (b ++ vn s.size = bb) := hbb
    clear h1 h2 h3 hlt hout hK1 hbl hbb C
    go_wp2_with (at_builtin; refine wpList_append_string_at _ rfl _ _ 80 9 rfl 5 i0 Tryz.underlying80 Tryz.underlying9 hi0 hz0'.out hz1 hz2 (.slice q0 bb.length c0) bb.length (u8c bb) rfl HH2.out s rfl (by unfold maxLen; have := HL.out; have := HLB.out; omega) (by have := HL.out; have := HLB.out; omega) ?_; intro v' w3 hown' hgrow3 hob3; obtain ⟨q', c', rfl⟩ := own_form hown'; have hp3 : w3.heap[p]? = some (.cells #[.bool f, .slice q0 bb.length c0] 82 (0, 0)) := (by rw [hgrow3.block p hp (fun e => (HH3.out p e.symm).2 rfl)]; exact HH1.out); have d1 := cellR (k := 1) hp3 rfl; have fz := frozen_zero hp3 1; have HP3 : Hid (w3.heap[p]? = some (.cells #[.bool f, .slice q0 bb.length c0] 82 (0, 0))) := hp3; have HOW : Hid (w3.ownsRow 0 5 1 (.slice q' (bb.length + s.size) c') (bb.length + s.size) (u8c bb ++ strCells s)) := hown'; have HGR : Hid (w1.grownBy w3 (Value.slice q0 bb.length c0).ownBlock) := hgrow3; have HOB : Hid ((Value.slice q' (bb.length + s.size) c').ownBlock = (Value.slice q0 bb.length c0).ownBlock ∨ (Value.slice q' (bb.length + s.size) c').ownBlock = some w1.heap.size) := hob3; clear hp3 hown' hgrow3 hob3)
    go_ret
    have hne : ∀ g, (Value.slice q' (bb.length + s.size) c').ownBlock = some g → ¬ K g ∧ g ≠ p := fun g hg => by
      rcases HOB.out with e | e
      · exact HH3.out g (by rw [← e]; exact hg)
      · rw [e] at hg
        simp only [Option.some.injEq] at hg
        exact ⟨fun hk => by have := HLT.out g hk; omega, by omega⟩
    have hs3 : w1.heap.size ≤ w3.heap.size := HGR.out.size
    refine ⟨rfl, ⟨HO.out, fun x hx => by rw [set_size HP3.out]; exact Nat.lt_of_lt_of_le (HLT.out x hx) hs3, fun e => absurd e (by decide), rfl, .slice q' (bb.length + s.size) c', set1_two HP3.out _, ?_, hne⟩, ?_⟩
    · refine ownsRow_of_block ?_ (fun g hg => set_other HP3.out _ (hne g hg).2)
      rw [HBB.out, u8c_append, ← u8c_str, List.length_append]
      exact HOW.out
    · exact (HK1.out.grown HGR.out (fun b hb => by have h1 := HLT.out b hb; have := HK1.out.block b hb; have h2 : b < w.heap.size := (by false_or_by_contra; rename_i hh; rw [Array.getElem?_eq_none (by omega : w.heap.size ≤ b), Array.getElem?_eq_getElem h1] at this; cases this); exact h2) (fun x hx => (HH3.out x hx).1)).set HP3.out _ HO.out
end Go.Proofs.YtgdjhkcllpkiiaaGreatDoor
