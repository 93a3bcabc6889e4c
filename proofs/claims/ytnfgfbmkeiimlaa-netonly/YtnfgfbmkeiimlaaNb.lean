/- Packets: what isNode, isLong, isFull, isWrong answer. -/
import Derived.Test.YtnfgfbmkeiimlaaNa
namespace Go.Proofs.Ytnfgfbmkeiimlaa
open Go.Shelf Go.RowKit Go.Lib Go.Sort
set_option linter.unusedVariables false
set_option linter.unusedSimpArgs false
attribute [local go_sem ↓] Go.wp_at_zero Go.wp_at_succ
theorem isNode_any (n : Int) (w : World) : Calls Try.prog 30 #[.int .i64 n] w fun e w' => e = .returned (.bool (nodeB n)) ∧ Below w.heap.size w w' := by
  unfold nodeB
  by_cases h1 : (0 : Int) ≤ n
  · by_cases h2 : n < 8
    · go_enter Try.func30, Try.ntmps30
      go_wp2_with fail
      go_ret
      exact ⟨by simp [h1, h2], Below.refl _ _⟩
    · go_enter Try.func30, Try.ntmps30
      go_wp2_with fail
      go_ret
      exact ⟨by simp [h1, h2], Below.refl _ _⟩
  · go_enter Try.func30, Try.ntmps30
    go_wp2_with fail
    go_ret
    exact ⟨by simp [h1]; omega, Below.refl _ _⟩
theorem refNode_any (n : Int) (w : World) : Calls Try.prog 24 #[.int .i64 n] w fun e w' => e = .returned (.bool (nodeB n)) ∧ Below w.heap.size w w' := by
  unfold nodeB
  by_cases h1 : (0 : Int) ≤ n
  · by_cases h2 : n < 8
    · go_enter Try.func24, Try.ntmps24
      go_wp2_with fail
      go_ret
      exact ⟨by simp [h1, h2], Below.refl _ _⟩
    · go_enter Try.func24, Try.ntmps24
      go_wp2_with fail
      go_ret
      exact ⟨by simp [h1, h2], Below.refl _ _⟩
  · go_enter Try.func24, Try.ntmps24
    go_wp2_with fail
    go_ret
    exact ⟨by simp [h1]; omega, Below.refl _ _⟩
theorem isLong_any (s : ByteArray) (w : World) : Calls Try.prog 31 #[.string s] w fun e w' => e = .returned (.bool (decide (65536 < s.size))) ∧ Below w.heap.size w w' := by
  go_enter Try.func31, Try.ntmps31
  go_wp2_with fail
  go_ret
  exact ⟨by simp; omega, Below.refl _ _⟩
set_option maxRecDepth 100000 in
set_option maxHeartbeats 2000000 in
theorem isWrong_any (p : PK) (w : World) : Calls Try.prog 29 #[.agg #[.int .i64 p.f, .int .i64 p.t, .string p.x]] w fun e w' => e = .returned (.bool (wrongP p)) ∧ Below w.heap.size w w' := by
  obtain ⟨f, t, x⟩ := p
  have CN : Hid (∀ n W, Calls Try.prog 30 #[.int .i64 n] W fun e w' => e = .returned (.bool (nodeB n)) ∧ Below W.heap.size W w') := isNode_any
  have CL : Hid (∀ s W, Calls Try.prog 31 #[.string s] W fun e w' => e = .returned (.bool (decide (65536 < s.size))) ∧ Below W.heap.size W w') := isLong_any
  have HB0 : Hid (Below w.heap.size w (w.alloc (.cells #[.int .i64 f, .int .i64 t, .string x] 30))) := one_below _ _
  unfold wrongP
  simp only
  cases h1 : nodeB f with
  | false =>
    go_enter Try.func29, Try.ntmps29
    go_wp2_with fail
    refine (CN.out _ _).mono ?_
    rintro e w1 ⟨rfl, hb1⟩
    rw [h1]
    have HB1 : Hid (Below w.heap.size w w1) := HB0.out.trans (hb1.mono HB0.out.size)
    clear hb1
    go_wp2_with fail
    go_ret
    exact ⟨rfl, HB1.out⟩
  | true =>
    go_enter Try.func29, Try.ntmps29
    go_wp2_with fail
    refine (CN.out _ _).mono ?_
    rintro e w1 ⟨rfl, hb1⟩
    rw [h1]
    have HB1 : Hid (Below w.heap.size w w1) := HB0.out.trans (hb1.mono HB0.out.size)
    have c1 : w1.cell? ⟨w.heap.size, 1, none⟩ = some (.int .i64 t) := by rw [hb1.cell (p := ⟨w.heap.size, _, none⟩) (by simp)]; exact cell_box _ _ _ _ _ rfl
    have c2 : w1.cell? ⟨w.heap.size, 2, none⟩ = some (.string x) := by rw [hb1.cell (p := ⟨w.heap.size, _, none⟩) (by simp)]; exact cell_box _ _ _ _ _ rfl
    have hl : w.heap.size < w1.heap.size := Nat.lt_of_lt_of_le (by simp) hb1.size
    clear hb1
    go_wp2_with fail
    refine (CN.out _ _).mono ?_
    rintro e w2 ⟨rfl, hb2⟩
    have HB2 : Hid (Below w.heap.size w w2) := HB1.out.trans (hb2.mono HB1.out.size)
    have d2 : w2.cell? ⟨w.heap.size, 2, none⟩ = some (.string x) := by rw [hb2.cell (p := ⟨w.heap.size, _, none⟩) hl]; exact c2
    clear hb2 c1 c2
    cases h2 : nodeB t with
    | false =>
      go_wp2_with fail
      go_ret
      exact ⟨by rw [h2]; rfl, HB2.out⟩
    | true =>
      go_wp2_with fail
      refine (CL.out _ _).mono ?_
      rintro e w3 ⟨rfl, hb3⟩
      have HB3 : Hid (Below w.heap.size w w3) := HB2.out.trans (hb3.mono HB2.out.size)
      clear hb3
      go_wp2_with fail
      go_ret
      exact ⟨by rw [h2]; rfl, HB3.out⟩
def anyW (fs : List PK) : Bool := fs.any wrongP
theorem any_step (fs : List PK) (i : Nat) (h : i < fs.length) (h0 : anyW (fs.take i) = false) : anyW (fs.take (i + 1)) = wrongP fs[i] := by
  unfold anyW at h0 ⊢; rw [List.take_succ_eq_append_getElem h, List.any_append, h0]; simp
theorem any_of (fs : List PK) (i : Nat) (h : i < fs.length) (h0 : wrongP fs[i] = true) : anyW fs = true := List.any_eq_true.2 ⟨_, List.getElem_mem h, h0⟩
set_option maxRecDepth 100000 in
set_option maxHeartbeats 2000000 in
theorem wrongIdx_any (v : Value) (fs : List PK) (w : World) (h : PsL w v fs) :
    Calls Try.prog 34 #[v, .func (.func 29) #[] #[]] w fun e w' => Below w.heap.size w w' ∧ ((e = .returned (.int .i64 (-1)) ∧ anyW fs = false) ∨ ∃ k : Nat, k < fs.length ∧ e = .returned (.int .i64 k) ∧ anyW fs = true) := by
  obtain ⟨p, c, rfl, hlc, hcc, hl, hs, hn, hp⟩ := h
  have HP : Hid (0 < fs.length → ∃ b o, p = some ⟨b, o, none⟩ ∧ b < w.heap.size ∧ PsIs w b o fs) := hp
  clear hp hs hn hcc
  go_enter Try.func34, Try.ntmps34
  go_wp2_with fail
  go_loopg [8] fs.length (fun gf s8 wx => ∃ i : Nat, s8 = .int .i64 i ∧ i ≤ fs.length ∧ fs.length ≤ i + gf ∧ Hid (Below w.heap.size w wx) ∧ Hid (anyW (fs.take i) = false))
  case atStart => exact ⟨0, rfl, by omega, by omega, Below.refl _ _, (show _ = _ from rfl)⟩
  case round =>
    obtain ⟨i, rfl, hi1, hgf, HB, HT⟩ := hrel
    by_cases hi : i < fs.length
    · obtain ⟨g', rfl⟩ : ∃ g', gk = g' + 1 := ⟨gk - 1, by omega⟩
      obtain ⟨b, o, rfl, hlt, hc⟩ := HP.out (by omega)
      obtain ⟨c0, c1, c2⟩ := (hc.below hlt HB.out) i hi
      have hst := any_step fs i hi HT.out
      have hof := any_of fs i hi
      obtain ⟨⟨n, d, y⟩, hf⟩ : ∃ f, fs[i] = f := ⟨_, rfl⟩
      rw [hf] at c0 c1 c2 hst hof
      simp only at c0 c1 c2
      have C1 : Hid (Calls Try.prog 29 #[.agg #[.int .i64 n, .int .i64 d, .string y]] wr fun e w' => e = .returned (.bool (wrongP ⟨n, d, y⟩)) ∧ Below wr.heap.size wr w') := isWrong_any ⟨n, d, y⟩ wr
      have z0 : (0 : Int) ≤ (i : Int) := by omega
      have z1 : (i : Int) < (fs.length : Int) := by omega
      clear hc hf
      cases ha : wrongP ⟨n, d, y⟩
      · rw [ha] at hst C1
        have HT2 : Hid (anyW (fs.take (i + 1)) = false) := hst
        clear hst hof ha HT
        go_wp2_with fail
        refine C1.out.mono ?_
        rintro e w2 ⟨rfl, hb2⟩
        have HB2 : Hid (Below w.heap.size w w2) := HB.out.trans (hb2.mono HB.out.size)
        clear C1 hb2
        go_wp2_with fail
        go_roundg g'
        case measure => omega
        case rel => exact ⟨i + 1, by go_num, by omega, by omega, HB2, HT2⟩
      · rw [ha] at hst C1 hof
        have HF : Hid (anyW fs = true) := hof rfl
        clear hst hof ha HT
        go_wp2_with fail
        refine C1.out.mono ?_
        rintro e w2 ⟨rfl, hb2⟩
        have HB2 : Hid (Below w.heap.size w w2) := HB.out.trans (hb2.mono HB.out.size)
        clear C1 hb2
        go_wp2_with fail
        go_ret
        exact ⟨HB2.out, .inr ⟨i, hi, rfl, HF.out⟩⟩
    · have z1 : ¬ (i : Int) < (fs.length : Int) := by omega
      have HF : Hid (anyW fs = false) := by have := HT.out; rwa [List.take_of_length_le (by omega)] at this
      clear HT
      go_wp2_with fail
      go_ret
      exact ⟨HB.out, .inl ⟨rfl, HF.out⟩⟩
theorem wrongHas_any (v : Value) (fs : List PK) (w : World) (h : PsL w v fs) :
    Calls Try.prog 28 #[v, .func (.func 29) #[] #[]] w fun e w' => e = .returned (.bool (anyW fs)) ∧ Below w.heap.size w w' := by
  have C1 : Hid (Calls Try.prog 34 #[v, .func (.func 29) #[] #[]] w fun e w' => Below w.heap.size w w' ∧ ((e = .returned (.int .i64 (-1)) ∧ anyW fs = false) ∨ ∃ k : Nat, k < fs.length ∧ e = .returned (.int .i64 k) ∧ anyW fs = true)) := wrongIdx_any v fs w h
  obtain ⟨p, c, rfl, _⟩ := h
  go_enter Try.func28, Try.ntmps28
  go_wp2_with fail
  refine C1.out.mono ?_
  rintro e w1 ⟨hb1, ⟨rfl, hl1⟩ | ⟨k, hk, rfl, hl1⟩⟩
  · have HF : Hid (anyW fs = false) := hl1
    clear hl1 C1
    go_wp2_with fail
    go_ret
    exact ⟨by rw [HF.out]; rfl, hb1⟩
  · have HF : Hid (anyW fs = true) := hl1
    have hk0 : (0 : Int) ≤ (k : Int) := by omega
    clear hl1 C1
    go_wp2_with fail
    go_ret
    exact ⟨by rw [HF.out]; rfl, hb1⟩
/-- A net's box. -/
theorem box24 (w : World) (v : Value) : ∃ W0, w.alloc (.cells #[v] 24) = W0 ∧ Below w.heap.size w W0 ∧ W0.heap.size = w.heap.size + 1 ∧
    (∀ W, Below W0.heap.size W0 W → W.cell? ⟨w.heap.size, 0, none⟩ = some v) := by
  refine ⟨_, rfl, one_below _ _, by simp, fun W hb => ?_⟩
  have g0 : W.heap[w.heap.size]? = some (.cells #[v] 24 (0, 0)) := by
    rw [hb.block _ (by simp)]; exact heap_alloc_new w _
  exact cell_of_row g0 rfl
set_option maxRecDepth 100000 in
set_option maxHeartbeats 2000000 in
theorem check_any (v : Value) (fs : List PK) (w : World) (h : PsL w v fs) :
    Calls Try.prog 18 #[.agg #[v]] w fun e w' => e = .returned (.int .i64 (chN fs)) ∧ Below w.heap.size w w' := by
  obtain ⟨W0, hW0, hb0, hs0, hx⟩ := box24 w v
  have HB0 : Hid (Below w.heap.size w W0) := hb0
  have x0 := hx W0 (Below.refl _ _)
  have C1 : Hid (Calls Try.prog 28 #[v, .func (.func 29) #[] #[]] W0 fun e w' => e = .returned (.bool (anyW fs)) ∧ Below W0.heap.size W0 w') := wrongHas_any v fs W0 (h.below hb0)
  obtain ⟨p, c, rfl, _⟩ := h
  by_cases hl : 4096 < (fs.length : Int)
  · have HF : Hid (chN fs = 6) := by
      unfold chN okN
      have : decide (fs.length ≤ 4096) = false := by simp; omega
      rw [this]; rfl
    go_enter Try.func18, Try.ntmps18
    go_wp2_with fail
    go_ret
    exact ⟨by rw [HF.out]; rfl, HB0.out⟩
  · have HF : Hid (chN fs = if anyW fs = true then 6 else 0) := by
      unfold chN okN
      have : decide (fs.length ≤ 4096) = true := by simp; omega
      rw [this]
      unfold anyW
      cases fs.any wrongP <;> rfl
    go_enter Try.func18, Try.ntmps18
    go_wp2_with fail
    refine C1.out.mono ?_
    rintro e w1 ⟨rfl, hb1⟩
    have HB : Hid (Below w.heap.size w w1) := HB0.out.trans (hb1.mono HB0.out.size)
    clear hb1 C1 x0
    cases ha : anyW fs with
    | true =>
      rw [ha] at HF
      have HF : Hid (chN fs = 6) := HF
      clear ha
      go_wp2_with fail
      go_ret
      exact ⟨by rw [HF.out]; rfl, HB.out⟩
    | false =>
      rw [ha] at HF
      have HF : Hid (chN fs = 0) := HF
      clear ha
      go_wp2_with fail
      go_ret
      exact ⟨by rw [HF.out]; rfl, HB.out⟩
theorem isFull_any (v : Value) (fs : List PK) (w : World) (h : PsL w v fs) :
    Calls Try.prog 27 #[.agg #[v]] w fun e w' => e = .returned (.bool (decide (4096 ≤ fs.length))) ∧ Below w.heap.size w w' := by
  obtain ⟨W0, hW0, hb0, hs0, hx⟩ := box24 w v
  have HB0 : Hid (Below w.heap.size w W0) := hb0
  have x0 := hx W0 (Below.refl _ _)
  obtain ⟨p, c, rfl, _⟩ := h
  go_enter Try.func27, Try.ntmps27
  go_wp2_with fail
  go_ret
  exact ⟨by simp; omega, HB0.out⟩
end Go.Proofs.Ytnfgfbmkeiimlaa
