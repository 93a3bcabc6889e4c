/- What the document's own examples answer. -/
import Derived.Test.YtdcgppdljcokpaaLl
namespace Go.Proofs.Ytdcgppdljcokpaa
open Go.Shelf Go.RowKit Go.Lib Go.Sort
set_option linter.unusedVariables false
set_option linter.unusedSimpArgs false
attribute [local go_sem ↓] Go.wp_at_zero Go.wp_at_succ
theorem lv_new (w : World) : Calls Try.prog 8 #[.int .i64 3] w fun e w' => ∃ p c q d, e = .returned (.tuple #[.agg #[.slice p 3 c, .slice q 3 d], .int .i64 0]) ∧ NumsL w' (.slice p 3 c) [0, 0, 0] ∧ NumsL w' (.slice q 3 d) [0, 0, 0] ∧ Below w.heap.size w w' := by
  have := New_any 3 w
  rw [show nobody 3 = [0, 0, 0] from rfl, show newE 3 = 0 from rfl] at this
  exact this
theorem lv_beat (u v : Value) (w : World) (h : NumsL w u [0, 0, 0]) (h' : NumsL w v [0, 0, 0]) : Calls Try.prog 10 #[.agg #[u, v], .int .i64 1, .int .u64 4, .int .u64 5] w fun e w' => ∃ p c q d, e = .returned (.tuple #[.agg #[.slice p 3 c, .slice q 3 d], .bool true, .int .i64 0]) ∧ NumsL w' (.slice p 3 c) [0, 4, 0] ∧ NumsL w' (.slice q 3 d) [0, 5, 0] ∧ Below w.heap.size w w' := by
  have := Beat_any u v _ _ 1 4 5 w h h' (by omega) (by omega)
  rw [show btB [0, 0, 0] [0, 0, 0] 1 4 5 = [0, 4, 0] from rfl, show btS [0, 0, 0] [0, 0, 0] 1 4 5 = [0, 5, 0] from rfl, show btF [0, 0, 0] [0, 0, 0] 1 4 5 = true from rfl, show btE [0, 0, 0] [0, 0, 0] 1 4 5 = 0 from rfl] at this
  exact this
theorem lv_none (u v : Value) (w : World) (h : NumsL w u [0, 4, 0]) (h' : NumsL w v [0, 5, 0]) : Calls Try.prog 10 #[.agg #[u, v], .int .i64 0, .int .u64 1, .int .u64 1] w fun e w' => ∃ p c q d f, e = .returned (.tuple #[.agg #[.slice p 3 c, .slice q 3 d], .bool f, .int .i64 2]) ∧ Below w.heap.size w w' := by
  have := Beat_any u v _ _ 0 1 1 w h h' (by omega) (by omega)
  rw [show btB [0, 4, 0] [0, 5, 0] 0 1 1 = [0, 4, 0] from rfl, show btS [0, 4, 0] [0, 5, 0] 0 1 1 = [0, 5, 0] from rfl, show btE [0, 4, 0] [0, 5, 0] 0 1 1 = 2 from rfl] at this
  refine this.mono ?_
  rintro e w' ⟨p, c, q, d, rfl, _, _, hb⟩
  exact ⟨p, c, q, d, _, rfl, hb⟩
/-- Three truths that lie in memory. -/
def Tri (W : World) (p : Option Addr) (a b c : Bool) : Prop := ∃ bl o, p = some ⟨bl, o, none⟩ ∧ bl < W.heap.size ∧ W.cell? ⟨bl, o + 0, none⟩ = some (.bool a) ∧ W.cell? ⟨bl, o + 1, none⟩ = some (.bool b) ∧ W.cell? ⟨bl, o + 2, none⟩ = some (.bool c)
theorem Tri.below {w W : World} {p : Option Addr} {a b c : Bool} (h : Tri w p a b c) (hb : Below w.heap.size w W) : Tri W p a b c := by
  obtain ⟨bl, o, rfl, hlt, h1, h2, h3⟩ := h
  exact ⟨bl, o, rfl, Nat.lt_of_lt_of_le hlt hb.size, by rw [hb.cell (p := ⟨bl, _, none⟩) hlt]; exact h1, by rw [hb.cell (p := ⟨bl, _, none⟩) hlt]; exact h2, by rw [hb.cell (p := ⟨bl, _, none⟩) hlt]; exact h3⟩
theorem lv_alive (u v : Value) (now : Int) (b : Bool) (w : World) (h : NumsL w u [0, 4, 0]) (h' : NumsL w v [0, 5, 0]) (hno : 0 ≤ now ∧ now < 18446744073709551616) (hb : alvL [0, 4, 0] [0, 5, 0] now = [true, b, false]) : Calls Try.prog 12 #[.agg #[u, v], .int .u64 now] w fun e w' => ∃ p c, e = .returned (.tuple #[.slice p 3 c, .int .i64 0]) ∧ Tri w' p true b false ∧ Below w.heap.size w w' := by
  have := Alive_any u v _ _ now w h h' hno
  rw [hb, show chL [0, 4, 0] [0, 5, 0] = 0 from rfl] at this
  refine this.mono ?_
  rintro e w' ⟨p, c, rfl, hB, hbl⟩
  obtain ⟨p', c', ev, _, hp⟩ := hB
  simp only [Value.slice.injEq] at ev
  obtain ⟨rfl, _, rfl⟩ := ev
  obtain ⟨bl, o, rfl, hlt, hc⟩ := hp (by simp)
  exact ⟨_, c, rfl, ⟨bl, o, rfl, hlt, hc 0 (by simp), hc 1 (by simp), hc 2 (by simp)⟩, hbl⟩
set_option maxRecDepth 100000 in
set_option maxHeartbeats 4000000 in
theorem lives_any (w : World) : Calls Try.prog 14 #[] w fun e w' => e = .returned (.bool true) ∧ Below w.heap.size w w' := by
  have C1 := hid (lv_new w)
  have C2 := hid lv_beat
  have C3 := hid (fun (u v : Value) (W : World) (h : NumsL W u [0, 4, 0]) (h' : NumsL W v [0, 5, 0]) => lv_alive u v 12 true W h h' (by omega) rfl)
  have C4 := hid (fun (u v : Value) (W : World) (h : NumsL W u [0, 4, 0]) (h' : NumsL W v [0, 5, 0]) => lv_alive u v 13 false W h h' (by omega) rfl)
  have C5 := hid lv_none
  go_enter Try.func14, Try.ntmps14
  go_wp2_with fail
  refine C1.out.mono ?_
  rintro e w1 ⟨p, c, q, d, rfl, hn1, hn2, hb1⟩
  obtain ⟨V1, hV1⟩ : ∃ V, w1.alloc (.cells #[.slice p 3 c, .slice q 3 d] 24) = V := ⟨_, rfl⟩
  have hbV : Below w1.heap.size w1 V1 := by rw [← hV1]; exact one_below _ _
  have gV : V1.heap[w1.heap.size]? = some (.cells #[.slice p 3 c, .slice q 3 d] 24 (0, 0)) := by rw [← hV1]; exact heap_alloc_new w1 _
  have x0 := cell_of_row (k := 0) (v := .slice p 3 c) gV rfl
  have x1 := cell_of_row (k := 1) (v := .slice q 3 d) gV rfl
  have K2 := C2.out _ _ V1 (hn1.below hbV) (hn2.below hbV)
  have HB1 : Hid (Below w.heap.size w w1) := hb1
  have HBV : Hid (Below w1.heap.size w1 V1) := hbV
  have HG : Hid (V1.heap[w1.heap.size]? = some (.cells #[.slice p 3 c, .slice q 3 d] 24 (0, 0))) := gV
  clear C1 C2 hn1 hn2 hb1 hbV gV
  go_wp2_with fail
  refine K2.mono ?_
  rintro e w2 ⟨p2, c2, q2, d2, rfl, hn1, hn2, hb2⟩
  have g2 : w2.heap[w1.heap.size]? = some (.cells #[.slice p 3 c, .slice q 3 d] 24 (0, 0)) := by rw [hb2.block _ (Array.getElem?_eq_some_iff.1 HG.out).1]; exact HG.out
  obtain ⟨Ua, Uz, hUa, hUz, u1, u2, u3, u4, u5, u6, u7, u8, u9, u10⟩ := set_two g2 (.slice p2 3 c2) (.slice q2 3 d2)
  have hni := no_int (.slice p 3 c) (.slice q 3 d) (fun n h => by cases h) (fun n h => by cases h)
  have HN1 : Hid (NumsL Uz (.slice p2 3 c2) [0, 4, 0]) := hn1.but g2 hni (fun j _ hj => u8 j hj) u9
  have HN2 : Hid (NumsL Uz (.slice q2 3 d2) [0, 5, 0]) := hn2.but g2 hni (fun j _ hj => u8 j hj) u9
  have HBU : Hid (Below w1.heap.size w1 Uz) := u10 _ _ (HBV.out.trans (hb2.mono HBV.out.size)) (Nat.le_refl _)
  have HGU : Hid (∀ W, Below Uz.heap.size Uz W → W.cell? ⟨w1.heap.size, 0, none⟩ = some (.slice p2 3 c2) ∧ W.cell? ⟨w1.heap.size, 1, none⟩ = some (.slice q2 3 d2)) := fun W hb => by
    have := (Array.getElem?_eq_some_iff.1 u7).1
    exact ⟨by rw [hb.cell (p := ⟨w1.heap.size, _, none⟩) this]; exact u5, by rw [hb.cell (p := ⟨w1.heap.size, _, none⟩) this]; exact u6⟩
  have K3 := C3.out _ _ Uz HN1.out HN2.out
  clear K2 hn1 hn2 hb2 g2 u7 u8 u9 u10 hni C3 HG x0 x1
  go_wp2_with fail
  refine K3.mono ?_
  rintro e w3 ⟨pa, ca, rfl, hT3, hb3⟩
  obtain ⟨y0, y1⟩ := HGU.out w3 hb3
  have HB3 : Hid (Below Uz.heap.size Uz w3) := hb3
  have HT3 : Hid (Tri w3 pa true true false) := hT3
  have K4 := C4.out _ _ w3 (HN1.out.below hb3) (HN2.out.below hb3)
  clear K3 C4 hT3 hb3 u1 u2 u3 u4 u5 u6
  go_wp2_with fail
  refine K4.mono ?_
  rintro e w4 ⟨pb, cb, rfl, hT4, hb4⟩
  have hB4 : Below Uz.heap.size Uz w4 := HB3.out.trans (hb4.mono HB3.out.size)
  obtain ⟨z0, z1⟩ := HGU.out w4 hB4
  have HB4 : Hid (Below Uz.heap.size Uz w4) := hB4
  have HT34 : Hid (Tri w4 pa true true false) := HT3.out.below hb4
  have HT4 : Hid (Tri w4 pb true false false) := hT4
  have K5 := C5.out _ _ w4 (HN1.out.below hB4) (HN2.out.below hB4)
  clear K4 C5 hT4 hb4 hB4 y0 y1 HT3 HB3
  go_wp2_with fail
  refine K5.mono ?_
  rintro e w5 ⟨p5, c5, q5, d5, f5, rfl, hb5⟩
  obtain ⟨V5, hV5⟩ : ∃ V, w5.alloc (.cells #[.slice p5 3 c5, .slice q5 3 d5] 24) = V := ⟨_, rfl⟩
  have hbV5 : Below w4.heap.size w4 V5 := by rw [← hV5]; exact hb5.alloc hb5.size _
  obtain ⟨ba, oa, rfl, _, a0, a1, a2⟩ := HT34.out.below hbV5
  obtain ⟨bb, ob, rfl, _, b0, b1, b2⟩ := HT4.out.below hbV5
  have HF : Hid (Below w.heap.size w V5) := by
    have h1 : Below w1.heap.size w1 w4 := HBU.out.trans (HB4.out.mono HBU.out.size)
    exact (HB1.out.trans (h1.mono HB1.out.size)).trans (hbV5.mono (Nat.le_trans HB1.out.size h1.size))
  rw [Nat.add_zero] at a0 b0
  clear K5 hb5 hbV5 z0 z1 HT34 HT4
  go_wp2_with fail
  go_ret
  exact ⟨rfl, HF.out⟩
end Go.Proofs.Ytdcgppdljcokpaa
