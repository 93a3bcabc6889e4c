/- What Deliver and Drop answer. -/
import Derived.Test.YtnfgfbmkeiimlaaNk
namespace Go.Proofs.Ytnfgfbmkeiimlaa
open Go.Shelf Go.RowKit Go.Lib Go.Sort
set_option linter.unusedVariables false
set_option linter.unusedSimpArgs false
attribute [local go_sem ↓] Go.wp_at_zero Go.wp_at_succ
def zeroP : PK := ⟨0, 0, ⟨#[]⟩⟩
def dlvP (ps : List PK) (i : Int) : List PK := if misE ps i = 0 then ps.take i.toNat ++ ps.drop (i.toNat + 1) else besP (misE ps i) ps
def dlvK (ps : List PK) (i : Int) : PK := if misE ps i = 0 then (ps[i.toNat]?).getD zeroP else zeroP
/-- A net and a packet that are answered with a number. -/
def NetP (ps : List PK) (k : PK) (er : Int) (w : World) (e : Ending) (w' : World) : Prop := ∃ p c, e = .returned (.tuple #[.agg #[.slice p ps.length c], .agg #[.int .i64 k.f, .int .i64 k.t, .string k.x], .int .i64 er]) ∧ PsL w' (.slice p ps.length c) ps ∧ NewP w.heap.size p ∧ Below w.heap.size w w'
theorem misE_zero {ps : List PK} {i : Int} (h : misE ps i = 0) : okN ps = true ∧ 0 ≤ i ∧ i < (ps.length : Int) := by
  unfold misE at h
  cases h1 : okN ps
  · rw [if_pos h1] at h; omega
  · rw [if_neg (by simp [h1])] at h
    by_cases h2 : i < 0 ∨ (ps.length : Int) ≤ i
    · rw [if_pos h2] at h; omega
    · exact ⟨rfl, by omega, by omega⟩
theorem okN_len {ps : List PK} (h : okN ps = true) : ps.length ≤ 4096 := by
  unfold okN at h; simp at h; exact h.1
/-- Parts of a list. -/
theorem PsL.take {w : World} {b o n c : Nat} {ps : List PK} (h : PsL w (.slice (some ⟨b, o, none⟩) n c) ps) (hn : n = ps.length) (k : Nat) (hk : k ≤ ps.length) (h0 : 0 < ps.length) : PsL w (.slice (some ⟨b, o, none⟩) k c) (ps.take k) := by
  subst hn
  obtain ⟨p, c', e, hlc, hc, hl, hs, hn, hp⟩ := h
  simp only [Value.slice.injEq, true_and] at e
  obtain ⟨rfl, rfl⟩ := e
  obtain ⟨b', o', e, hlt, hi⟩ := hp h0
  simp only [Option.some.injEq, Addr.mk.injEq, and_true] at e
  obtain ⟨rfl, rfl⟩ := e
  have hlen : (ps.take k).length = k := by simp; omega
  refine ⟨_, c, by rw [hlen], by omega, hc, by omega, fun f hf => hs f (List.mem_of_mem_take hf), (fun h => by cases h), fun _ => ⟨b, o, rfl, hlt, fun j hj => ?_⟩⟩
  rw [hlen] at hj
  have := hi j (by omega)
  simpa using this
theorem PsL.drop {w : World} {b o n c : Nat} {ps : List PK} (h : PsL w (.slice (some ⟨b, o, none⟩) n c) ps) (hn : n = ps.length) (k : Nat) (hk : k ≤ ps.length) (h0 : 0 < ps.length) : PsL w (.slice (some ⟨b, o + k * 3, none⟩) (ps.length - k) (c - k)) (ps.drop k) := by
  subst hn
  obtain ⟨p, c', e, hlc, hc, hl, hs, hn, hp⟩ := h
  simp only [Value.slice.injEq, true_and] at e
  obtain ⟨rfl, rfl⟩ := e
  obtain ⟨b', o', e, hlt, hi⟩ := hp h0
  simp only [Option.some.injEq, Addr.mk.injEq, and_true] at e
  obtain ⟨rfl, rfl⟩ := e
  have hlen : (ps.drop k).length = ps.length - k := by simp
  refine ⟨_, c - k, by rw [hlen], by omega, by omega, by omega, fun f hf => hs f (List.mem_of_mem_drop hf), (fun h => by cases h), fun _ => ⟨b, o + k * 3, rfl, hlt, fun j hj => ?_⟩⟩
  rw [hlen] at hj
  have := hi (k + j) (by omega)
  rw [show o + (k + j) * 3 = o + k * 3 + j * 3 by omega] at this
  simpa using this
theorem PsL.mt {w : World} {b o : Nat} : PsL w (.slice (some ⟨b, o, none⟩) 0 0) [] := ⟨_, 0, rfl, by simp, by omega, by simp, (fun f hf => by simp at hf), (fun h => by cases h), fun h => by simp at h⟩
/-- Boxes of a net that is handed in, of a net and of a packet that are answered. -/
theorem boxes3 (w : World) (v : Value) : ∃ W0, ((w.alloc (.cells #[v] 24)).alloc (.cells #[.slice none 0 0] 24)).alloc (.cells #[.int .i64 0, .int .i64 0, .string ⟨#[]⟩] 30) = W0 ∧ Below w.heap.size w W0 ∧ W0.heap.size = w.heap.size + 3 ∧
    (∀ W, Below W0.heap.size W0 W → W.cell? ⟨w.heap.size, 0, none⟩ = some v ∧ W.heap[w.heap.size + 1]? = some (.cells #[.slice none 0 0] 24 (0, 0)) ∧ W.heap[w.heap.size + 2]? = some (.cells #[.int .i64 0, .int .i64 0, .string ⟨#[]⟩] 30 (0, 0))) := by
  refine ⟨_, rfl, three_below _ _ _ _, by simp, fun W hb => ⟨?_, ?_, ?_⟩⟩
  · refine cell_of_row (t := 24) (cur := #[v]) ?_ rfl
    rw [hb.block _ (by simp; omega), heap_alloc_old _ _ (by simp; omega), heap_alloc_old _ _ (by simp)]; exact heap_alloc_new w _
  · rw [hb.block _ (by simp), heap_alloc_old _ _ (by simp)]
    have := heap_alloc_new (w.alloc (.cells #[v] 24)) (.cells #[.slice none 0 0] 24)
    simpa using this
  · rw [hb.block _ (by simp)]
    have := heap_alloc_new ((w.alloc (.cells #[v] 24)).alloc (.cells #[.slice none 0 0] 24)) (.cells #[.int .i64 0, .int .i64 0, .string ⟨#[]⟩] 30)
    simpa using this
/-- What is answered is put into its boxes. -/
theorem ret_boxes {w W : World} {g : Nat} {p : Option Addr} {n c : Nat} {ps : List PK} (y1 : W.heap[g]? = some (.cells #[.slice none 0 0] 24 (0, 0))) (y2 : W.heap[g + 1]? = some (.cells #[.int .i64 0, .int .i64 0, .string ⟨#[]⟩] 30 (0, 0))) (hl : PsL W (.slice p n c) ps) (hn : NewP (g + 2) p) (hb : Below w.heap.size w W) (hg : w.heap.size ≤ g) (kf kt : Int) (kx : ByteArray) :
    ∃ Wz Wa Wb Wc, W.setCell ⟨g, 0, none⟩ (.slice p n c) = Wz ∧ W.cell? ⟨g, 0, none⟩ = some (.slice none 0 0) ∧ W.frozen? ⟨g, 0, none⟩ = false ∧ Wz.setCell ⟨g + 1, 0, none⟩ (.int .i64 kf) = Wa ∧ Wa.setCell ⟨g + 1, 1, none⟩ (.int .i64 kt) = Wb ∧ Wb.setCell ⟨g + 1, 2, none⟩ (.string kx) = Wc ∧
      Wz.cell? ⟨g + 1, 0, none⟩ = some (.int .i64 0) ∧ Wz.frozen? ⟨g + 1, 0, none⟩ = false ∧ (∃ o, Wa.cell? ⟨g + 1, 1, none⟩ = some o) ∧ Wa.frozen? ⟨g + 1, 1, none⟩ = false ∧ (∃ o, Wb.cell? ⟨g + 1, 2, none⟩ = some o) ∧ Wb.frozen? ⟨g + 1, 2, none⟩ = false ∧ (∀ B w0, Below B w0 W → B ≤ g → Below B w0 Wz ∧ Below B w0 Wc) ∧
      Hid (PsL Wc (.slice p n c) ps ∧ Below w.heap.size w Wc ∧ Wc.cell? ⟨g, 0, none⟩ = some (.slice p n c) ∧ Wc.cell? ⟨g + 1, 0, none⟩ = some (.int .i64 kf) ∧ Wc.cell? ⟨g + 1, 1, none⟩ = some (.int .i64 kt) ∧ Wc.cell? ⟨g + 1, 2, none⟩ = some (.string kx)) := by
  obtain ⟨Wz, hWz, t1, t2, t3, t4, t5, t6, t7, t8⟩ := set_box y1 hl
  have y3 : Wz.heap[g + 1]? = some (.cells #[.int .i64 0, .int .i64 0, .string ⟨#[]⟩] 30 (0, 0)) := by rw [t6 _ (by omega)]; exact y2
  obtain ⟨Wa, Wb, Wc, hWa, hWb, hWc, ca, fa, cb, fb, cc, fc, hbl, hsz, hoth, cur', hg', _, _, r0, r1, r2⟩ := set_three (k := 0) y3 (by simp) (.int .i64 kf) (.int .i64 kt) (.string kx)
  refine ⟨Wz, Wa, Wb, Wc, hWz, t1, t2, hWa, hWb, hWc, cell_of_row y3 rfl, fa, cb, fb, cc, fc, fun B w0 h1 h2 => ⟨t8 _ _ h1 h2, hbl _ _ (t8 _ _ h1 h2) (by omega)⟩, ?_, hbl _ _ (t8 _ _ hb hg) (by omega), ?_, cell_of_row hg' r0, cell_of_row hg' r1, cell_of_row hg' r2⟩
  · exact t5.but (g := g + 1) (fun a ha => by have := hn a ha; omega) hoth hsz
  · refine cell_of_row (t := 24) (cur := #[.slice p n c]) ?_ rfl
    rw [hoth _ (by omega)]; exact t3
set_option maxRecDepth 100000 in
set_option maxHeartbeats 4000000 in
theorem Deliver_any (v : Value) (i : Int) (ps : List PK) (w : World) (h : PsL w v ps) :
    Calls Try.prog 10 #[.agg #[v], .int .i64 i] w fun e w' => NetP (dlvP ps i) (dlvK ps i) (misE ps i) w e w' := by
  obtain ⟨W0, hW0, hb0, hs0, hx⟩ := boxes3 w v
  have HX : Hid _ := hx
  have HB0 : Hid (Below w.heap.size w W0) := hb0
  have x0 := (hx W0 (Below.refl _ _)).1
  have C1 : Hid (Calls Try.prog 25 #[.agg #[v], .int .i64 i] W0 fun e w' => e = .returned (.int .i64 (misE ps i)) ∧ Below W0.heap.size W0 w') := miss_any v i ps W0 (h.below hb0)
  have HL : Hid (PsL w v ps) := h
  by_cases h0 : misE ps i = 0
  · obtain ⟨hok, hi0, hi1⟩ := misE_zero h0
    obtain ⟨k, rfl⟩ : ∃ k : Nat, i = (k : Int) := ⟨i.toNat, by omega⟩
    have hk : k < ps.length := by omega
    have hle := okN_len hok
    have hP : dlvP ps (k : Int) = ps.take k ++ ps.drop (k + 1) := by unfold dlvP; rw [if_pos h0, Int.toNat_natCast]
    have hK : dlvK ps (k : Int) = ps[k] := by unfold dlvK; rw [if_pos h0, Int.toNat_natCast, List.getElem?_eq_getElem hk]; rfl
    obtain ⟨⟨kf, kt, kx⟩, hf⟩ : ∃ f, ps[k] = f := ⟨_, rfl⟩
    rw [hP, hK, h0, hf]
    rw [h0] at C1
    have HFK : Hid (ps[k] = ⟨kf, kt, kx⟩) := hf
    have CN : Hid (∀ b V v v', LsL V (.slice (some ⟨b, 0, none⟩) 2 2) [(v, ps.take k), (v', ps.drop (k + 1))] → Calls Try.prog 23 #[.slice (some ⟨b, 0, none⟩) 2 2] V fun e w' => NetR (ps.take k ++ ps.drop (k + 1)) V e w') := fun b V v v' hl => by
      have := netOf_net _ [(v, ps.take k), (v', ps.drop (k + 1))] V hl (by simp [allP]; omega)
      simpa [allP] using this
    obtain ⟨qs, hq⟩ : ∃ qs, ps.take k ++ ps.drop (k + 1) = qs := ⟨_, rfl⟩
    rw [hq] at CN ⊢
    obtain ⟨p, c, rfl, hlc, hcc, hl, hs, hn, hp⟩ := h
    obtain ⟨b, o, rfl, hlt, hc⟩ := hp (by omega)
    have HS0 : Hid (W0.heap.size = w.heap.size + 3) := hs0
    clear hP hK hx hb0 hs0 h0 hq hp hf
    go_enter Try.func10, Try.ntmps10
    go_wp2_with fail
    refine C1.out.mono ?_
    rintro e w1 ⟨rfl, hb1⟩
    obtain ⟨a0, a1, a2⟩ := HX.out w1 hb1
    have HB1 : Hid (Below W0.heap.size W0 w1) := hb1
    have q1 : IntKind.i64.wrap ((k : Int) + 1) = (k : Int) + 1 := by rw [IntKind.wrap_i64]; omega
    have hBw : Below w.heap.size w w1 := HB0.out.trans (hb1.mono HB0.out.size)
    obtain ⟨m0, m1, m2⟩ := (hc.below hlt hBw) k hk
    have hsm := hs _ (List.getElem_mem hk)
    rw [HFK.out] at m0 m1 m2 hsm
    simp only at m0 m1 m2 hsm
    have CP : Hid (∀ W, Calls Try.prog 26 #[.agg #[.int .i64 kf, .int .i64 kt, .string kx]] W fun e w' => e = .returned (.agg #[.int .i64 kf, .int .i64 kt, .string kx]) ∧ Below W.heap.size W w') := fun W => newPacket_any kf kt kx W hsm
    have hbl : b < w1.heap.size := Nat.lt_of_lt_of_le hlt hBw.size
    have hwl : w.heap.size < w1.heap.size := Nat.lt_of_lt_of_le (by rw [HS0.out]; omega) hb1.size
    have hPw : PsL w1 (.slice (some ⟨b, o, none⟩) ps.length c) ps := HL.out.below hBw
    have HT := hPw.take rfl k (by omega) (by omega)
    have z0 : (0 : Int) ≤ (k : Int) := by omega
    have z1 : (k : Int) < (ps.length : Int) := by omega
    have hs1 := fun W => slice_to W b o ps.length c k (by omega) hcc
    have hs2 : ∀ W, (Instr.slice 22 (.slice (some ⟨b, o, none⟩) ps.length c) (some (.int .i64 ((k : Int) + 1))) none none).run Try.prog W = .ok (.slice (if c = k + 1 then some ⟨b, o, none⟩ else some ⟨b, o + (k + 1) * 3, none⟩) (ps.length - (k + 1)) (c - (k + 1))) W := fun W => slice_from W b o ps.length c (k + 1) (by omega) hlc
    clear C1 hb1 x0 hsm hBw HFK
    by_cases hck : c = k + 1
    · have hl1 : ps.length - (k + 1) = 0 := by omega
      have hl2 : c - (k + 1) = 0 := by omega
      simp only [if_pos hck, hl1, hl2] at hs2
      have hd0 : ps.drop (k + 1) = [] := List.drop_eq_nil_of_le (by omega)
      rw [hd0] at CN
      clear hd0 hl1 hl2 hck
      have hls := two_lists (t := 22) HT (PsL.mt (w := w1) (b := b) (o := o)) rfl
      have HLS1 : Hid _ := hls
      have HLS2 : Hid _ := hls.below (Below.refl _ _).drew
      have HV : Hid (Below w1.heap.size w1 (w1.alloc (.cells #[.slice (some ⟨b, o, none⟩) k c, .slice (some ⟨b, o, none⟩) 0 0] 22))) := one_below _ _
      clear HT hls hPw
      go_wp2_with fail
      go_region_held3 (fun w' => w'.cell? ⟨w.heap.size, 0, none⟩ = some (.slice (some ⟨b, o, none⟩) ps.length c) ∧ w'.cell? ⟨b, o + k * 3, none⟩ = some (.int .i64 kf) ∧ w'.cell? ⟨b, o + k * 3 + 1, none⟩ = some (.int .i64 kt) ∧ w'.cell? ⟨b, o + k * 3 + 2, none⟩ = some (.string kx))
        (first
          | (go_split_ands; refine ⟨?_, ?_, ?_, ?_⟩ <;> (first
            | (rw [hBz.cell (p := ⟨_, _, none⟩) (by first | exact Nat.lt_succ_self _ | exact Nat.lt_succ_of_lt hlt)]; first | exact a0 | exact m0 | exact m1 | exact m2)
            | (rw [hBc.cell (p := ⟨_, _, none⟩) (by first | exact Nat.lt_succ_self _ | exact Nat.lt_succ_of_lt hlt)]; first | exact a0 | exact m0 | exact m1 | exact m2)
            | (rw [hB3.cell (p := ⟨_, _, none⟩) (by first | exact hwl | exact hbl)]; first | exact a0 | exact m0 | exact m1 | exact m2)
            | (rw [hB2.cell (p := ⟨_, _, none⟩) (by first | exact hwl | exact hbl)]; first | exact a0 | exact m0 | exact m1 | exact m2)
            | (rw [HV.out.cell (p := ⟨_, _, none⟩) (by first | exact hwl | exact hbl)]; first | exact a0 | exact m0 | exact m1 | exact m2)
            | (rw [HV.out.drew.cell (p := ⟨_, _, none⟩) (by first | exact hwl | exact hbl)]; first | exact a0 | exact m0 | exact m1 | exact m2)))
          | go_keep)
        ((first
          | (go_at_call 23; first
            | (refine (CN.out _ _ _ _ HLS1.out).mono ?_; rintro e w2 ⟨p2, c2, rfl, hl2, hn2, hb2⟩; have HN : Hid (NewP w1.heap.size p2) := hn2.mono HV.out.size; clear hn2; have hB2 : Below w1.heap.size w1 w2 := HV.out.trans (hb2.mono HV.out.size))
            | (refine (CN.out _ _ _ _ HLS2.out).mono ?_; rintro e w2 ⟨p2, c2, rfl, hl2, hn2, hb2⟩; have HN : Hid (NewP w1.heap.size p2) := hn2.mono HV.out.size; clear hn2; have hB2 : Below w1.heap.size w1 w2 := HV.out.drew.trans (hb2.mono HV.out.size)))
          | (go_at_call 26; refine (CP.out _).mono ?_; rintro e w3 ⟨rfl, hb3⟩; have hB3 : Below w1.heap.size w1 w3 := hB2.trans (hb3.mono hB2.size); obtain ⟨Wz, Wa, Wb, Wc, hWz, t1, t2, hWa, hWb, hWc, ca, fa, ⟨ob, cb⟩, fb, ⟨oc, cc⟩, fc, hup, HFIN⟩ := ret_boxes (HX.out w3 (HB1.out.trans (hB3.mono HB1.out.size))).2.1 (HX.out w3 (HB1.out.trans (hB3.mono HB1.out.size))).2.2 (hl2.below hb3) (HN.out.mono (by have := HS0.out; have := HB1.out.size; omega)) (HB0.out.trans ((HB1.out.trans (hB3.mono HB1.out.size)).mono HB0.out.size)) (Nat.le_succ _) kf kt kx; obtain ⟨hBz, hBc⟩ := hup _ _ (hB3.mono hwl) (Nat.le_refl _); clear hb3 hl2 hup)))
      obtain ⟨f1, f2, f3, f4, f5, f6⟩ := HFIN.out
      have HF : Hid (PsL Wc (.slice p2 qs.length c2) qs ∧ NewP w.heap.size p2 ∧ Below w.heap.size w Wc) := ⟨f1, HN.out.mono (by omega), f2⟩
      clear f1 f2 HFIN HN
      go_wp2_with fail
      exact bodyPost_ret (v := .tuple #[.agg #[.slice p2 qs.length c2], .agg #[.int .i64 kf, .int .i64 kt, .string kx], .int .i64 0]) (by simp [results, Try.results10, go_sem, f3, f4, f5, f6]) rfl ⟨p2, c2, rfl, HF.out⟩
    · simp only [if_neg hck] at hs2
      have HD := hPw.drop rfl (k + 1) (by omega) (by omega)
      have hls := two_lists (t := 22) HT HD rfl
      have HLS1 : Hid _ := hls
      have HLS2 : Hid _ := hls.below (Below.refl _ _).drew
      have HV : Hid (Below w1.heap.size w1 (w1.alloc (.cells #[.slice (some ⟨b, o, none⟩) k c, .slice (some ⟨b, o + (k + 1) * 3, none⟩) (ps.length - (k + 1)) (c - (k + 1))] 22))) := one_below _ _
      clear HT HD hls hPw hck
      go_wp2_with fail
      go_region_held3 (fun w' => w'.cell? ⟨w.heap.size, 0, none⟩ = some (.slice (some ⟨b, o, none⟩) ps.length c) ∧ w'.cell? ⟨b, o + k * 3, none⟩ = some (.int .i64 kf) ∧ w'.cell? ⟨b, o + k * 3 + 1, none⟩ = some (.int .i64 kt) ∧ w'.cell? ⟨b, o + k * 3 + 2, none⟩ = some (.string kx))
        (first
          | (go_split_ands; refine ⟨?_, ?_, ?_, ?_⟩ <;> (first
            | (rw [hBz.cell (p := ⟨_, _, none⟩) (by first | exact Nat.lt_succ_self _ | exact Nat.lt_succ_of_lt hlt)]; first | exact a0 | exact m0 | exact m1 | exact m2)
            | (rw [hBc.cell (p := ⟨_, _, none⟩) (by first | exact Nat.lt_succ_self _ | exact Nat.lt_succ_of_lt hlt)]; first | exact a0 | exact m0 | exact m1 | exact m2)
            | (rw [hB3.cell (p := ⟨_, _, none⟩) (by first | exact hwl | exact hbl)]; first | exact a0 | exact m0 | exact m1 | exact m2)
            | (rw [hB2.cell (p := ⟨_, _, none⟩) (by first | exact hwl | exact hbl)]; first | exact a0 | exact m0 | exact m1 | exact m2)
            | (rw [HV.out.cell (p := ⟨_, _, none⟩) (by first | exact hwl | exact hbl)]; first | exact a0 | exact m0 | exact m1 | exact m2)
            | (rw [HV.out.drew.cell (p := ⟨_, _, none⟩) (by first | exact hwl | exact hbl)]; first | exact a0 | exact m0 | exact m1 | exact m2)))
          | go_keep)
        ((first
          | (go_at_call 23; first
            | (refine (CN.out _ _ _ _ HLS1.out).mono ?_; rintro e w2 ⟨p2, c2, rfl, hl2, hn2, hb2⟩; have HN : Hid (NewP w1.heap.size p2) := hn2.mono HV.out.size; clear hn2; have hB2 : Below w1.heap.size w1 w2 := HV.out.trans (hb2.mono HV.out.size))
            | (refine (CN.out _ _ _ _ HLS2.out).mono ?_; rintro e w2 ⟨p2, c2, rfl, hl2, hn2, hb2⟩; have HN : Hid (NewP w1.heap.size p2) := hn2.mono HV.out.size; clear hn2; have hB2 : Below w1.heap.size w1 w2 := HV.out.drew.trans (hb2.mono HV.out.size)))
          | (go_at_call 26; refine (CP.out _).mono ?_; rintro e w3 ⟨rfl, hb3⟩; have hB3 : Below w1.heap.size w1 w3 := hB2.trans (hb3.mono hB2.size); obtain ⟨Wz, Wa, Wb, Wc, hWz, t1, t2, hWa, hWb, hWc, ca, fa, ⟨ob, cb⟩, fb, ⟨oc, cc⟩, fc, hup, HFIN⟩ := ret_boxes (HX.out w3 (HB1.out.trans (hB3.mono HB1.out.size))).2.1 (HX.out w3 (HB1.out.trans (hB3.mono HB1.out.size))).2.2 (hl2.below hb3) (HN.out.mono (by have := HS0.out; have := HB1.out.size; omega)) (HB0.out.trans ((HB1.out.trans (hB3.mono HB1.out.size)).mono HB0.out.size)) (Nat.le_succ _) kf kt kx; obtain ⟨hBz, hBc⟩ := hup _ _ (hB3.mono hwl) (Nat.le_refl _); clear hb3 hl2 hup)))
      obtain ⟨f1, f2, f3, f4, f5, f6⟩ := HFIN.out
      have HF : Hid (PsL Wc (.slice p2 qs.length c2) qs ∧ NewP w.heap.size p2 ∧ Below w.heap.size w Wc) := ⟨f1, HN.out.mono (by omega), f2⟩
      clear f1 f2 HFIN HN
      go_wp2_with fail
      exact bodyPost_ret (v := .tuple #[.agg #[.slice p2 qs.length c2], .agg #[.int .i64 kf, .int .i64 kt, .string kx], .int .i64 0]) (by simp [results, Try.results10, go_sem, f3, f4, f5, f6]) rfl ⟨p2, c2, rfl, HF.out⟩
  · have hP : dlvP ps i = besP (misE ps i) ps := by unfold dlvP; rw [if_neg h0]
    have hK : dlvK ps i = zeroP := by unfold dlvK; rw [if_neg h0]
    rw [hP, hK]
    have CB : Hid (∀ W, Below w.heap.size w W → Calls Try.prog 22 #[.int .i64 (misE ps i), .agg #[v]] W fun e w' => NetR (besP (misE ps i) ps) W e w') := fun W hb => beside_any _ v ps W (HL.out.below hb)
    obtain ⟨E, hE⟩ : ∃ E, misE ps i = E := ⟨_, rfl⟩
    obtain ⟨qs, hq⟩ : ∃ qs, besP (misE ps i) ps = qs := ⟨_, rfl⟩
    rw [hq] at CB ⊢
    rw [hE] at C1 CB h0 ⊢
    have hn0 : (E != 0) = true := by simpa using h0
    obtain ⟨p, c, rfl, _⟩ := h
    have HS0 : Hid (W0.heap.size = w.heap.size + 3) := hs0
    clear hP hK hx hb0 hs0 h0 hE hq
    go_enter Try.func10, Try.ntmps10
    go_wp2_with fail
    refine C1.out.mono ?_
    rintro e w1 ⟨rfl, hb1⟩
    obtain ⟨a0, a1, a2⟩ := HX.out w1 hb1
    have HB1 : Hid (Below W0.heap.size W0 w1) := hb1
    have hBw : Below w.heap.size w w1 := HB0.out.trans (hb1.mono HB0.out.size)
    have CB1 := CB.out w1 hBw
    clear C1 hb1 x0 CB
    go_wp2_with fail
    refine CB1.mono ?_
    rintro e w3 ⟨p2, c2, rfl, hl2, hn2, hb3⟩
    have hB3 : Below W0.heap.size W0 w3 := HB1.out.trans (hb3.mono HB1.out.size)
    obtain ⟨Wz, Wa, Wb, Wc, hWz, t1, t2, hWa, hWb, hWc, ca, fa, ⟨ob, cb⟩, fb, ⟨oc, cc⟩, fc, hup, HFIN⟩ := ret_boxes (HX.out w3 hB3).2.1 (HX.out w3 hB3).2.2 hl2 (hn2.mono (by have := HS0.out; have := HB1.out.size; omega)) (HB0.out.trans (hB3.mono HB0.out.size)) (Nat.le_succ _) 0 0 ⟨#[]⟩
    obtain ⟨f1, f2, f3, f4, f5, f6⟩ := HFIN.out
    have HF : Hid (PsL Wc (.slice p2 qs.length c2) qs ∧ NewP w.heap.size p2 ∧ Below w.heap.size w Wc) := ⟨f1, hn2.mono hBw.size, f2⟩
    clear f1 f2 HFIN hn2 hl2 hup CB1 hb3 hB3 hBw
    go_wp2_with fail
    exact bodyPost_ret (v := .tuple #[.agg #[.slice p2 qs.length c2], .agg #[.int .i64 0, .int .i64 0, .string ⟨#[]⟩], .int .i64 E]) (by simp [results, Try.results10, go_sem, f3, f4, f5, f6]) rfl ⟨p2, c2, rfl, HF.out⟩
set_option maxRecDepth 100000 in
set_option maxHeartbeats 4000000 in
theorem Drop_any (v : Value) (i : Int) (ps : List PK) (w : World) (h : PsL w v ps) :
    Calls Try.prog 12 #[.agg #[v], .int .i64 i] w fun e w' => NetE (dlvP ps i) (misE ps i) w e w' := by
  obtain ⟨W0, hW0, hb0, hs0, hx⟩ := boxes2 w v
  have HX : Hid _ := hx
  have HB0 : Hid (Below w.heap.size w W0) := hb0
  have x0 := (hx W0 (Below.refl _ _)).1
  have C1 : Hid (Calls Try.prog 10 #[.agg #[v], .int .i64 i] W0 fun e w' => NetP (dlvP ps i) (dlvK ps i) (misE ps i) W0 e w') := Deliver_any v i ps W0 (h.below hb0)
  obtain ⟨qs, hq⟩ : ∃ qs, dlvP ps i = qs := ⟨_, rfl⟩
  obtain ⟨⟨kf, kt, kx⟩, hk⟩ : ∃ k, dlvK ps i = k := ⟨_, rfl⟩
  obtain ⟨E, hE⟩ : ∃ E, misE ps i = E := ⟨_, rfl⟩
  rw [hq, hk, hE] at C1
  rw [hq, hE]
  obtain ⟨p, c, rfl, _⟩ := h
  clear hq hk hE hx hb0 hs0
  go_enter Try.func12, Try.ntmps12
  go_wp2_with fail
  refine C1.out.mono ?_
  rintro e w1 ⟨p1, c1, rfl, hl1, hn1, hb1⟩
  obtain ⟨V, hV⟩ : ∃ V, (w1.alloc (.cells #[.slice p1 qs.length c1] 24)).alloc (.cells #[.int .i64 kf, .int .i64 kt, .string kx] 30) = V := ⟨_, rfl⟩
  have hbV : Below w1.heap.size w1 V := by rw [← hV]; exact two_below _ _ _
  have v0 : V.cell? ⟨w1.heap.size, 0, none⟩ = some (.slice p1 qs.length c1) := by
    refine cell_of_row (t := 24) (cur := #[.slice p1 qs.length c1]) ?_ rfl
    rw [← hV, heap_alloc_old _ _ (by simp)]; exact heap_alloc_new w1 _
  have hBV : Below W0.heap.size W0 V := hb1.trans (hbV.mono hb1.size)
  obtain ⟨Wz, hWz, z1, z2, z3, z4, z5, _, _, z6⟩ := set_box (HX.out V hBV).2 (hl1.below hbV)
  have HF : Hid (PsL Wz (.slice p1 qs.length c1) qs ∧ NewP w.heap.size p1 ∧ Below w.heap.size w Wz) := ⟨z5, hn1.mono HB0.out.size, z6 _ _ (HB0.out.trans (hBV.mono HB0.out.size)) (by omega)⟩
  clear C1 hb1 hl1 hn1 hbV hBV z3 z5 z6
  go_wp2_with fail
  exact bodyPost_ret (v := .tuple #[.agg #[.slice p1 qs.length c1], .int .i64 E]) (by simp [results, Try.results12, go_sem, z4]) rfl ⟨p1, c1, rfl, HF.out⟩
end Go.Proofs.Ytnfgfbmkeiimlaa
