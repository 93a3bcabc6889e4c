/- What Send answers. -/
import Derived.Test.YtnfgfbmkeiimlaaNh
namespace Go.Proofs.Ytnfgfbmkeiimlaa
open Go.Shelf Go.RowKit Go.Lib Go.Sort
set_option linter.unusedVariables false
set_option linter.unusedSimpArgs false
attribute [local go_sem ↓] Go.wp_at_zero Go.wp_at_succ
def sndP (ps : List PK) (f t : Int) (x : ByteArray) : List PK := if refE ps f t x = 0 then ps ++ [⟨f, t, x⟩] else besP (refE ps f t x) ps
/-- A packet that lies in a block of its own. -/
theorem one_pack (w : World) (f t : Int) (x : ByteArray) (hs : x.size ≤ 65536) : PsL (w.alloc (.cells #[.int .i64 f, .int .i64 t, .string x] 30)) (.slice (some ⟨w.heap.size, 0, none⟩) 1 1) [⟨f, t, x⟩] := by
  refine ⟨_, 1, rfl, by simp, by omega, by simp, fun k hk => ?_, (fun h => by cases h), fun _ => ⟨_, 0, rfl, by simp, fun j hj => ?_⟩⟩
  · simp only [List.mem_singleton] at hk
    subst hk
    show x.size ≤ _
    omega
  · match j, hj with
    | 0, _ => exact ⟨cell_box _ _ _ _ _ rfl, cell_box _ _ _ _ _ rfl, cell_box _ _ _ _ _ rfl⟩
theorem refE_zero {ps : List PK} {f t : Int} {x : ByteArray} (h : refE ps f t x = 0) : okN ps = true ∧ nodeB f = true ∧ nodeB t = true ∧ x.size ≤ 65536 ∧ ps.length < 4096 := by
  unfold refE at h
  cases h1 : okN ps
  · rw [if_pos h1] at h; omega
  · rw [if_neg (by simp [h1])] at h
    by_cases h2 : nodeB f = false ∨ nodeB t = false
    · rw [if_pos h2] at h; omega
    · rw [if_neg h2] at h
      by_cases h3 : 65536 < x.size
      · rw [if_pos h3] at h; omega
      · rw [if_neg h3] at h
        by_cases h4 : 4096 ≤ ps.length
        · rw [if_pos h4] at h; omega
        · exact ⟨rfl, by cases e : nodeB f <;> simp_all, by cases e : nodeB t <;> simp_all, by omega, by omega⟩
/-- Boxes of a net that is handed in, and of one that is answered. -/
theorem boxes2 (w : World) (v : Value) : ∃ W0, (w.alloc (.cells #[v] 24)).alloc (.cells #[.slice none 0 0] 24) = W0 ∧ Below w.heap.size w W0 ∧ W0.heap.size = w.heap.size + 2 ∧
    (∀ W, Below W0.heap.size W0 W → W.cell? ⟨w.heap.size, 0, none⟩ = some v ∧ W.heap[w.heap.size + 1]? = some (.cells #[.slice none 0 0] 24 (0, 0))) := by
  refine ⟨_, rfl, two_below _ _ _, by simp, fun W hb => ⟨?_, ?_⟩⟩
  · refine cell_of_row (t := 24) (cur := #[v]) ?_ rfl
    rw [hb.block _ (by simp; omega), heap_alloc_old _ _ (by simp)]; exact heap_alloc_new w _
  · rw [hb.block _ (by simp)]
    have := heap_alloc_new (w.alloc (.cells #[v] 24)) (.cells #[.slice none 0 0] 24)
    simpa using this
set_option maxRecDepth 100000 in
set_option maxHeartbeats 4000000 in
theorem Send_any (v : Value) (f t : Int) (x : ByteArray) (ps : List PK) (w : World) (h : PsL w v ps) :
    Calls Try.prog 8 #[.agg #[v], .int .i64 f, .int .i64 t, .string x] w fun e w' => NetE (sndP ps f t x) (refE ps f t x) w e w' := by
  obtain ⟨W0, hW0, hb0, hs0, hx⟩ := boxes2 w v
  have HX : Hid _ := hx
  have HB0 : Hid (Below w.heap.size w W0) := hb0
  have x0 := (hx W0 (Below.refl _ _)).1
  have C1 : Hid (Calls Try.prog 21 #[.agg #[v], .int .i64 f, .int .i64 t, .string x] W0 fun e w' => e = .returned (.int .i64 (refE ps f t x)) ∧ Below W0.heap.size W0 w') := refuse_any v f t x ps W0 (h.below hb0)
  have HL : Hid (PsL w v ps) := h
  by_cases h0 : refE ps f t x = 0
  · have hz := refE_zero h0
    have hP : sndP ps f t x = ps ++ [⟨f, t, x⟩] := by unfold sndP; rw [if_pos h0]
    rw [hP, h0]
    rw [h0] at C1
    have CN : Hid (∀ b V v', LsL V (.slice (some ⟨b, 0, none⟩) 2 2) [(v, ps), (v', [⟨f, t, x⟩])] → Calls Try.prog 23 #[.slice (some ⟨b, 0, none⟩) 2 2] V fun e w' => NetR (ps ++ [⟨f, t, x⟩]) V e w') := fun b V v' hl => by
      have := netOf_net _ [(v, ps), (v', [⟨f, t, x⟩])] V hl (by simp [allP]; omega)
      simpa [allP] using this
    obtain ⟨qs, hq⟩ : ∃ qs, ps ++ [(⟨f, t, x⟩ : PK)] = qs := ⟨_, rfl⟩
    rw [hq] at CN ⊢
    obtain ⟨p, c, rfl, _⟩ := h
    clear hP hx hb0 hs0 h0 hq
    go_enter Try.func8, Try.ntmps8
    go_wp2_with fail
    refine C1.out.mono ?_
    rintro e w1 ⟨rfl, hb1⟩
    obtain ⟨a0, a1⟩ := HX.out w1 hb1
    have HB1 : Hid (Below W0.heap.size W0 w1) := hb1
    have hBw : Below w.heap.size w w1 := HB0.out.trans (hb1.mono HB0.out.size)
    have hls := two_lists (t := 22) ((HL.out.below hBw).below (one_below w1 (.cells #[.int .i64 f, .int .i64 t, .string x] 30))) (one_pack w1 f t x hz.2.2.2.1) rfl
    have hsz : (w1.alloc (.cells #[.int .i64 f, .int .i64 t, .string x] 30)).heap.size = w1.heap.size + 1 := by simp
    rw [hsz] at hls
    have HLS : Hid _ := hls
    have HV : Hid (Below w1.heap.size w1 ((w1.alloc (.cells #[.int .i64 f, .int .i64 t, .string x] 30)).alloc (.cells #[.slice p ps.length c, .slice (some ⟨w1.heap.size, 0, none⟩) 1 1] 22))) := two_below _ _ _
    clear C1 hb1 x0 hls hsz hBw hz
    go_wp2_with fail
    refine (CN.out _ _ _ HLS.out).mono ?_
    rintro e w2 ⟨p2, c2, rfl, hl2, hn2, hb2⟩
    have HN : Hid (NewP w.heap.size p2) := hn2.mono (Nat.le_trans HB0.out.size (Nat.le_trans HB1.out.size HV.out.size))
    have hB1 : Below w1.heap.size w1 w2 := HV.out.trans (hb2.mono HV.out.size)
    have hB2 : Below W0.heap.size W0 w2 := HB1.out.trans (hB1.mono HB1.out.size)
    obtain ⟨Wz, hWz, z1, z2, z3, z4, z5, _, _, z6⟩ := set_box (HX.out w2 hB2).2 hl2
    have HB : Hid (Below w.heap.size w Wz) := z6 _ _ (HB0.out.trans (hB2.mono HB0.out.size)) (by omega)
    have HP : Hid (PsL Wz (.slice p2 qs.length c2) qs) := z5
    clear CN hb2 hB2 hB1 hl2 hn2 z3 z5 z6 HLS HV
    go_wp2_with fail
    exact bodyPost_ret (v := .tuple #[.agg #[.slice p2 qs.length c2], .int .i64 0]) (by simp [results, Try.results8, go_sem, z4]) rfl ⟨p2, c2, rfl, HP.out, HN.out, HB.out⟩
  · have hP : sndP ps f t x = besP (refE ps f t x) ps := by unfold sndP; rw [if_neg h0]
    rw [hP]
    have CB : Hid (∀ W, Below w.heap.size w W → Calls Try.prog 22 #[.int .i64 (refE ps f t x), .agg #[v]] W fun e w' => NetR (besP (refE ps f t x) ps) W e w') := fun W hb => beside_any _ v ps W (HL.out.below hb)
    obtain ⟨E, hE⟩ : ∃ E, refE ps f t x = E := ⟨_, rfl⟩
    obtain ⟨qs, hq⟩ : ∃ qs, besP (refE ps f t x) ps = qs := ⟨_, rfl⟩
    rw [hq] at CB ⊢
    rw [hE] at C1 CB h0 ⊢
    have hn0 : (E != 0) = true := by simpa using h0
    obtain ⟨p, c, rfl, _⟩ := h
    clear hP hx hb0 hs0 h0 hE hq
    go_enter Try.func8, Try.ntmps8
    go_wp2_with fail
    refine C1.out.mono ?_
    rintro e w1 ⟨rfl, hb1⟩
    obtain ⟨a0, a1⟩ := HX.out w1 hb1
    have HB1 : Hid (Below W0.heap.size W0 w1) := hb1
    have hBw : Below w.heap.size w w1 := HB0.out.trans (hb1.mono HB0.out.size)
    have CB1 := CB.out w1 hBw
    clear C1 hb1 x0 CB
    go_wp2_with fail
    refine CB1.mono ?_
    rintro e w2 ⟨p2, c2, rfl, hl2, hn2, hb2⟩
    have HN : Hid (NewP w.heap.size p2) := hn2.mono (Nat.le_trans HB0.out.size HB1.out.size)
    have hB2 : Below W0.heap.size W0 w2 := HB1.out.trans (hb2.mono HB1.out.size)
    obtain ⟨Wz, hWz, z1, z2, z3, z4, z5, _, _, z6⟩ := set_box (HX.out w2 hB2).2 hl2
    have HB : Hid (Below w.heap.size w Wz) := z6 _ _ (HB0.out.trans (hB2.mono HB0.out.size)) (by omega)
    have HP : Hid (PsL Wz (.slice p2 qs.length c2) qs) := z5
    clear CB1 hb2 hB2 hl2 hn2 z3 z5 z6 hBw
    go_wp2_with fail
    exact bodyPost_ret (v := .tuple #[.agg #[.slice p2 qs.length c2], .int .i64 E]) (by simp [results, Try.results8, go_sem, z4]) rfl ⟨p2, c2, rfl, HP.out, HN.out, HB.out⟩
end Go.Proofs.Ytnfgfbmkeiimlaa
