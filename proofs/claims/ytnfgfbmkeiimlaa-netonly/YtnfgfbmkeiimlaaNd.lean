/- What the reference's Check, refuse and miss answer. -/
import Derived.Test.YtnfgfbmkeiimlaaNc
namespace Go.Proofs.Ytnfgfbmkeiimlaa
open Go.Shelf Go.RowKit Go.Lib Go.Sort
set_option linter.unusedVariables false
set_option linter.unusedSimpArgs false
attribute [local go_sem ↓] Go.wp_at_zero Go.wp_at_succ
set_option maxRecDepth 100000 in
set_option maxHeartbeats 4000000 in
theorem refCheck_any (v : Value) (fs : List PK) (w : World) (h : PsL w v fs) :
    Calls Try.prog 19 #[.agg #[v]] w fun e w' => e = .returned (.int .i64 (chN fs)) ∧ Below w.heap.size w w' := by
  obtain ⟨W0, hW0, hb0, hs0, hx⟩ := box24 w v
  have HB0 : Hid (Below w.heap.size w W0) := hb0
  have x0 := hx W0 (Below.refl _ _)
  have CN : Hid (∀ n W, Calls Try.prog 24 #[.int .i64 n] W fun e w' => e = .returned (.bool (nodeB n)) ∧ Below W.heap.size W w') := refNode_any
  obtain ⟨q, c, rfl, hlc, hcc, hl, hs, hn, hp⟩ := h.below hb0
  have HP : Hid (0 < fs.length → ∃ b o, q = some ⟨b, o, none⟩ ∧ b < W0.heap.size ∧ PsIs W0 b o fs) := hp
  have HS : Hid (SmallP fs) := hs
  clear hp hs hn hcc h hb0 hs0 hx
  by_cases hl : 4096 < (fs.length : Int)
  · have HF : Hid (chN fs = 6) := by
      unfold chN okN
      have : decide (fs.length ≤ 4096) = false := by simp; omega
      rw [this]; rfl
    go_enter Try.func19, Try.ntmps19
    go_wp2_with fail
    go_ret
    exact ⟨by rw [HF.out]; rfl, HB0.out⟩
  have HF : Hid (∀ b, anyW fs = b → chN fs = if b = true then 6 else 0) := by
    rintro b rfl
    unfold chN okN anyW
    have : decide (fs.length ≤ 4096) = true := by simp; omega
    rw [this]
    cases fs.any wrongP <;> rfl
  go_enter Try.func19, Try.ntmps19
  go_wp2_with fail
  go_loopg [12] fs.length (fun gf s8 wx => ∃ i : Nat, s8 = .int .i64 i ∧ i ≤ fs.length ∧ fs.length ≤ i + gf ∧ Hid (Below W0.heap.size W0 wx) ∧ Hid (anyW (fs.take i) = false))
  case atStart => exact ⟨0, rfl, by omega, by omega, Below.refl _ _, (show _ = _ from rfl)⟩
  case round =>
    obtain ⟨i, rfl, hi1, hgf, HB, HT⟩ := hrel
    by_cases hi : i < fs.length
    · obtain ⟨g', rfl⟩ : ∃ g', gk = g' + 1 := ⟨gk - 1, by omega⟩
      obtain ⟨b, o, rfl, hlt, hc⟩ := HP.out (by omega)
      obtain ⟨c0, c1, c2⟩ := (hc.below hlt HB.out) i hi
      have hsm := HS.out _ (List.getElem_mem hi)
      have hst := any_step fs i hi HT.out
      have hof := any_of fs i hi
      obtain ⟨⟨n, d, y⟩, hf⟩ : ∃ f, fs[i] = f := ⟨_, rfl⟩
      rw [hf] at c0 c1 c2 hst hof hsm
      simp only at c0 c1 c2 hsm
      have z0 : (0 : Int) ≤ (i : Int) := by omega
      have z1 : (i : Int) < (fs.length : Int) := by omega
      obtain ⟨W1, hW1⟩ : ∃ W1, wr.alloc (.cells #[.int .i64 n, .int .i64 d, .string y] 30) = W1 := ⟨_, rfl⟩
      have hb1 : Below wr.heap.size wr W1 := by rw [← hW1]; exact one_below _ _
      have g1 : W1.heap[wr.heap.size]? = some (.cells #[.int .i64 n, .int .i64 d, .string y] 30 (0, 0)) := by rw [← hW1]; exact heap_alloc_new wr _
      have hl1 : wr.heap.size < W1.heap.size := (Array.getElem?_eq_some_iff.1 g1).1
      have HG : Hid (∀ W, Below W1.heap.size W1 W → W.cell? ⟨wr.heap.size, 0, none⟩ = some (.int .i64 n) ∧ W.cell? ⟨wr.heap.size, 1, none⟩ = some (.int .i64 d) ∧ W.cell? ⟨wr.heap.size, 2, none⟩ = some (.string y)) := fun W hb => by
        have g : W.heap[wr.heap.size]? = some (.cells #[.int .i64 n, .int .i64 d, .string y] 30 (0, 0)) := by rw [hb.block _ hl1]; exact g1
        exact ⟨cell_of_row g rfl, cell_of_row g rfl, cell_of_row g rfl⟩
      obtain ⟨m0, m1, m2⟩ := HG.out W1 (Below.refl _ _)
      have HB1 : Hid (Below W0.heap.size W0 W1) := HB.out.trans (hb1.mono HB.out.size)
      have HW1 : Hid (wrongP ⟨n, d, y⟩ = (!nodeB n || (!nodeB d || decide (65536 < y.size)))) := (show _ = _ from rfl)
      clear hc hf hb1 g1 hl1
      cases ha : nodeB n
      · rw [ha] at HW1
        have HC6 : Hid (chN fs = 6) := HF.out true (hof (by rw [HW1.out]; rfl))
        clear hst hof HT
        go_wp2_with fail
        refine (CN.out _ _).mono ?_
        rintro e w2 ⟨rfl, hb2⟩
        rw [ha]
        have HB2 : Hid (Below w.heap.size w w2) := HB0.out.trans ((HB1.out.trans (hb2.mono HB1.out.size)).mono HB0.out.size)
        clear hb2
        go_wp2_with fail
        go_ret
        exact ⟨by rw [HC6.out]; rfl, HB2.out⟩
      · rw [ha] at HW1
        go_wp2_with fail
        refine (CN.out _ _).mono ?_
        rintro e w2 ⟨rfl, hb2⟩
        rw [ha]
        have HB2 : Hid (Below W1.heap.size W1 w2) := hb2
        obtain ⟨n0, n1, n2⟩ := HG.out w2 hb2
        clear hb2 m0 m1 m2
        cases hd : nodeB d
        · rw [hd] at HW1
          have HC6 : Hid (chN fs = 6) := HF.out true (hof (by rw [HW1.out]; rfl))
          clear hst hof HT
          go_wp2_with fail
          refine (CN.out _ _).mono ?_
          rintro e w3 ⟨rfl, hb3⟩
          rw [hd]
          have HB3 : Hid (Below w.heap.size w w3) := HB0.out.trans ((HB1.out.trans ((HB2.out.trans (hb3.mono HB2.out.size)).mono HB1.out.size)).mono HB0.out.size)
          clear hb3
          go_wp2_with fail
          go_ret
          exact ⟨by rw [HC6.out]; rfl, HB3.out⟩
        · rw [hd] at HW1
          go_wp2_with fail
          refine (CN.out _ _).mono ?_
          rintro e w3 ⟨rfl, hb3⟩
          rw [hd]
          have HB3 : Hid (Below W0.heap.size W0 w3) := HB1.out.trans ((HB2.out.trans (hb3.mono HB2.out.size)).mono HB1.out.size)
          obtain ⟨k0, k1, k2⟩ := HG.out w3 (HB2.out.trans (hb3.mono HB2.out.size))
          clear hb3 n0 n1 n2
          by_cases hy : 65536 < (y.size : Int)
          · have HC6 : Hid (chN fs = 6) := HF.out true (hof (by rw [HW1.out]; simp; omega))
            have HBW : Hid (Below w.heap.size w w3) := HB0.out.trans (HB3.out.mono HB0.out.size)
            clear hst hof HT
            go_wp2_with fail
            go_ret
            exact ⟨by rw [HC6.out]; rfl, HBW.out⟩
          · have HT2 : Hid (anyW (fs.take (i + 1)) = false) := by
              show _ = _
              rw [hst, HW1.out]; simp; omega
            clear hst hof HT
            go_wp2_with fail
            go_roundg g'
            case measure => omega
            case rel => exact ⟨i + 1, by go_num, by omega, by omega, HB3, HT2⟩
    · have z1 : ¬ (i : Int) < (fs.length : Int) := by omega
      have HC0 : Hid (chN fs = 0) := HF.out false (by have := HT.out; rwa [List.take_of_length_le (by omega)] at this)
      have HBW : Hid (Below w.heap.size w wr) := HB0.out.trans (HB.out.mono HB0.out.size)
      clear HT HF
      go_wp2_with fail
      go_ret
      exact ⟨by rw [HC0.out]; rfl, HBW.out⟩
/-- Why a packet is not sent; why there is none. -/
def refE (fs : List PK) (f t : Int) (x : ByteArray) : Int := if okN fs = false then 6 else if nodeB f = false ∨ nodeB t = false then 2 else if 65536 < x.size then 4 else if 4096 ≤ fs.length then 8 else 0
def misE (fs : List PK) (i : Int) : Int := if okN fs = false then 6 else if i < 0 ∨ (fs.length : Int) ≤ i then 7 else 0
theorem chN_cases (fs : List PK) : (okN fs = false ∧ chN fs = 6) ∨ (okN fs = true ∧ chN fs = 0) := by
  unfold chN; cases okN fs <;> simp
set_option maxRecDepth 100000 in
set_option maxHeartbeats 4000000 in
theorem miss_any (v : Value) (i : Int) (fs : List PK) (w : World) (h : PsL w v fs) :
    Calls Try.prog 25 #[.agg #[v], .int .i64 i] w fun e w' => e = .returned (.int .i64 (misE fs i)) ∧ Below w.heap.size w w' := by
  obtain ⟨W0, hW0, hb0, hs0, hx⟩ := box24 w v
  have HB0 : Hid (Below w.heap.size w W0) := hb0
  have x0 := hx W0 (Below.refl _ _)
  have HX : Hid _ := hx
  have C1 : Hid (Calls Try.prog 18 #[.agg #[v]] W0 fun e w' => e = .returned (.int .i64 (chN fs)) ∧ Below W0.heap.size W0 w') := check_any v fs W0 (h.below hb0)
  have hm := h.many
  obtain ⟨q, c, rfl, _⟩ := h
  clear hx hs0 hb0
  unfold misE
  rcases chN_cases fs with ⟨e1, e2⟩ | ⟨e1, e2⟩
  · rw [e2] at C1
    rw [if_pos e1]
    clear e1 e2
    go_enter Try.func25, Try.ntmps25
    go_wp2_with fail
    refine C1.out.mono ?_
    rintro e w1 ⟨rfl, hb1⟩
    have HB1 : Hid (Below w.heap.size w w1) := HB0.out.trans (hb1.mono HB0.out.size)
    clear hb1
    go_wp2_with fail
    go_ret
    exact ⟨rfl, HB1.out⟩
  · rw [e2] at C1
    rw [if_neg (by simp [e1])]
    clear e1 e2
    by_cases i0 : i < 0
    · rw [if_pos (.inl i0)]
      go_enter Try.func25, Try.ntmps25
      go_wp2_with fail
      refine C1.out.mono ?_
      rintro e w1 ⟨rfl, hb1⟩
      have HB1 : Hid (Below w.heap.size w w1) := HB0.out.trans (hb1.mono HB0.out.size)
      clear hb1
      go_wp2_with fail
      go_ret
      exact ⟨rfl, HB1.out⟩
    · by_cases i1 : (fs.length : Int) ≤ i
      · rw [if_pos (.inr i1)]
        go_enter Try.func25, Try.ntmps25
        go_wp2_with fail
        refine C1.out.mono ?_
        rintro e w1 ⟨rfl, hb1⟩
        have HB1 : Hid (Below w.heap.size w w1) := HB0.out.trans (hb1.mono HB0.out.size)
        have x1 := HX.out w1 hb1
        clear hb1
        go_wp2_with fail
        go_ret
        exact ⟨rfl, HB1.out⟩
      · rw [if_neg (by omega)]
        go_enter Try.func25, Try.ntmps25
        go_wp2_with fail
        refine C1.out.mono ?_
        rintro e w1 ⟨rfl, hb1⟩
        have HB1 : Hid (Below w.heap.size w w1) := HB0.out.trans (hb1.mono HB0.out.size)
        have x1 := HX.out w1 hb1
        clear hb1
        go_wp2_with fail
        go_ret
        exact ⟨rfl, HB1.out⟩
set_option maxRecDepth 100000 in
set_option maxHeartbeats 4000000 in
theorem refuse_any (v : Value) (f t : Int) (x : ByteArray) (fs : List PK) (w : World) (h : PsL w v fs) :
    Calls Try.prog 21 #[.agg #[v], .int .i64 f, .int .i64 t, .string x] w fun e w' => e = .returned (.int .i64 (refE fs f t x)) ∧ Below w.heap.size w w' := by
  obtain ⟨W0, hW0, hb0, hs0, hx⟩ := box24 w v
  have HB0 : Hid (Below w.heap.size w W0) := hb0
  have x0 := hx W0 (Below.refl _ _)
  have HX : Hid _ := hx
  have C1 : Hid (Calls Try.prog 18 #[.agg #[v]] W0 fun e w' => e = .returned (.int .i64 (chN fs)) ∧ Below W0.heap.size W0 w') := check_any v fs W0 (h.below hb0)
  have CN : Hid (∀ n W, Calls Try.prog 30 #[.int .i64 n] W fun e w' => e = .returned (.bool (nodeB n)) ∧ Below W.heap.size W w') := isNode_any
  have CL : Hid (∀ s W, Calls Try.prog 31 #[.string s] W fun e w' => e = .returned (.bool (decide (65536 < s.size))) ∧ Below W.heap.size W w') := isLong_any
  have CF : Hid (∀ W, Below w.heap.size w W → Calls Try.prog 27 #[.agg #[v]] W fun e w' => e = .returned (.bool (decide (4096 ≤ fs.length))) ∧ Below W.heap.size W w') := fun W hb => isFull_any v fs W (h.below hb)
  obtain ⟨q, c, rfl, _⟩ := h
  clear hx hs0 hb0
  rcases chN_cases fs with ⟨e1, e2⟩ | ⟨e1, e2⟩
  · rw [e2] at C1
    have HE : Hid (refE fs f t x = 6) := hid (by unfold refE; rw [if_pos e1])
    clear e1 e2
    go_enter Try.func21, Try.ntmps21
    go_wp2_with fail
    refine C1.out.mono ?_
    rintro e w1 ⟨rfl, hb1⟩
    have HB1 : Hid (Below w.heap.size w w1) := HB0.out.trans (hb1.mono HB0.out.size)
    clear hb1
    go_wp2_with fail
    go_ret
    exact ⟨by rw [HE.out]; rfl, HB1.out⟩
  · rw [e2] at C1
    have HK : Hid (okN fs = true) := e1
    clear e1 e2
    go_enter Try.func21, Try.ntmps21
    go_wp2_with fail
    refine C1.out.mono ?_
    rintro e w1 ⟨rfl, hb1⟩
    have HB1 : Hid (Below w.heap.size w w1) := HB0.out.trans (hb1.mono HB0.out.size)
    have HI1 : Hid (Below W0.heap.size W0 w1) := hb1
    clear hb1 C1 x0
    go_wp2_with fail
    refine (CN.out _ _).mono ?_
    rintro e w2 ⟨rfl, hb2⟩
    have HB2 : Hid (Below w.heap.size w w2) := HB1.out.trans (hb2.mono HB1.out.size)
    have HI2 : Hid (Below W0.heap.size W0 w2) := HI1.out.trans (hb2.mono HI1.out.size)
    clear hb2
    cases hf : nodeB f
    · have HE : Hid (refE fs f t x = 2) := hid (by unfold refE; rw [if_neg (by simp [HK.out]), if_pos (.inl hf)])
      go_wp2_with fail
      go_ret
      exact ⟨by rw [HE.out]; rfl, HB2.out⟩
    · go_wp2_with fail
      refine (CN.out _ _).mono ?_
      rintro e w3 ⟨rfl, hb3⟩
      have HB3 : Hid (Below w.heap.size w w3) := HB2.out.trans (hb3.mono HB2.out.size)
      have HI3 : Hid (Below W0.heap.size W0 w3) := HI2.out.trans (hb3.mono HI2.out.size)
      clear hb3
      cases ht : nodeB t
      · have HE : Hid (refE fs f t x = 2) := hid (by unfold refE; rw [if_neg (by simp [HK.out]), if_pos (.inr ht)])
        go_wp2_with fail
        go_ret
        exact ⟨by rw [HE.out]; rfl, HB3.out⟩
      · have HQ : Hid (refE fs f t x = if 65536 < x.size then 4 else if 4096 ≤ fs.length then 8 else 0) := hid (by unfold refE; rw [if_neg (by simp [HK.out]), if_neg (by simp [hf, ht])])
        go_wp2_with fail
        refine (CL.out _ _).mono ?_
        rintro e w4 ⟨rfl, hb4⟩
        have HB4 : Hid (Below w.heap.size w w4) := HB3.out.trans (hb4.mono HB3.out.size)
        have HI4 : Hid (Below W0.heap.size W0 w4) := HI3.out.trans (hb4.mono HI3.out.size)
        clear hb4
        by_cases hl : 65536 < x.size
        · have HE : Hid (refE fs f t x = 4) := hid (by rw [HQ.out, if_pos hl])
          rw [decide_eq_true hl]
          go_wp2_with fail
          go_ret
          exact ⟨by rw [HE.out]; rfl, HB4.out⟩
        · have HQ2 : Hid (refE fs f t x = if 4096 ≤ fs.length then 8 else 0) := hid (by rw [HQ.out, if_neg hl])
          rw [decide_eq_false hl]
          have x4 := HX.out w4 HI4.out
          have CF4 := CF.out w4 HB4.out
          clear hl
          go_wp2_with fail
          refine CF4.mono ?_
          rintro e w5 ⟨rfl, hb5⟩
          have HB5 : Hid (Below w.heap.size w w5) := HB4.out.trans (hb5.mono HB4.out.size)
          clear hb5 CF4
          by_cases hl : 4096 ≤ fs.length
          · have HE : Hid (refE fs f t x = 8) := hid (by rw [HQ2.out, if_pos hl])
            rw [decide_eq_true hl]
            clear hl
            go_wp2_with fail
            go_ret
            exact ⟨by rw [HE.out]; rfl, HB5.out⟩
          · have HE : Hid (refE fs f t x = 0) := hid (by rw [HQ2.out, if_neg hl])
            rw [decide_eq_false hl]
            clear hl
            go_wp2_with fail
            go_ret
            exact ⟨by rw [HE.out]; rfl, HB5.out⟩
end Go.Proofs.Ytnfgfbmkeiimlaa
