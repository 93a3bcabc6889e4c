/- What Copy answers. -/
import Derived.Test.YtnfgfbmkeiimlaaNj
namespace Go.Proofs.Ytnfgfbmkeiimlaa
open Go.Shelf Go.RowKit Go.Lib Go.Sort
set_option linter.unusedVariables false
set_option linter.unusedSimpArgs false
attribute [local go_sem ↓] Go.wp_at_zero Go.wp_at_succ
def cpyE (ps : List PK) (i : Int) : Int := if misE ps i = 0 ∧ 4096 ≤ ps.length then 8 else misE ps i
def cpyP (ps : List PK) (i : Int) : List PK := if cpyE ps i = 0 then ps ++ [dlvK ps i] else besP (cpyE ps i) ps
theorem PsL.mid {w : World} {b o n c : Nat} {ps : List PK} (h : PsL w (.slice (some ⟨b, o, none⟩) n c) ps) (hn : n = ps.length) (k : Nat) (hk : k < ps.length) : PsL w (.slice (some ⟨b, o + k * 3, none⟩) 1 (c - k)) [ps[k]] := by
  subst hn
  obtain ⟨p, c', e, hlc, hc, hl, hs, hn, hp⟩ := h
  simp only [Value.slice.injEq, true_and] at e
  obtain ⟨rfl, rfl⟩ := e
  obtain ⟨b', o', e, hlt, hi⟩ := hp (by omega)
  simp only [Option.some.injEq, Addr.mk.injEq, and_true] at e
  obtain ⟨rfl, rfl⟩ := e
  refine ⟨_, c - k, rfl, by simp; omega, by omega, by simp, fun f hf => ?_, (fun h => by cases h), fun _ => ⟨b, o + k * 3, rfl, hlt, fun j hj => ?_⟩⟩
  · simp only [List.mem_singleton] at hf
    rw [hf]; exact hs _ (List.getElem_mem hk)
  · match j, hj with
    | 0, _ => exact hi k hk
set_option maxRecDepth 100000 in
set_option maxHeartbeats 4000000 in
theorem Copy_any (v : Value) (i : Int) (ps : List PK) (w : World) (h : PsL w v ps) :
    Calls Try.prog 14 #[.agg #[v], .int .i64 i] w fun e w' => NetE (cpyP ps i) (cpyE ps i) w e w' := by
  obtain ⟨W0, hW0, hb0, hs0, hx⟩ := boxes2 w v
  have HX : Hid _ := hx
  have HB0 : Hid (Below w.heap.size w W0) := hb0
  have x0 := (hx W0 (Below.refl _ _)).1
  have C1 : Hid (Calls Try.prog 25 #[.agg #[v], .int .i64 i] W0 fun e w' => e = .returned (.int .i64 (misE ps i)) ∧ Below W0.heap.size W0 w') := miss_any v i ps W0 (h.below hb0)
  have CF : Hid (∀ W, Below w.heap.size w W → Calls Try.prog 27 #[.agg #[v]] W fun e w' => e = .returned (.bool (decide (4096 ≤ ps.length))) ∧ Below W.heap.size W w') := fun W hb => isFull_any v ps W (h.below hb)
  have HL : Hid (PsL w v ps) := h
  have HS0 : Hid (W0.heap.size = w.heap.size + 2) := hs0
  have CB : Hid (∀ er W, Below w.heap.size w W → Calls Try.prog 22 #[.int .i64 er, .agg #[v]] W fun e w' => NetR (besP er ps) W e w') := fun er W hb => beside_any er v ps W (HL.out.below hb)
  by_cases h0 : misE ps i = 0
  · obtain ⟨hok, hi0, hi1⟩ := misE_zero h0
    obtain ⟨k, rfl⟩ : ∃ k : Nat, i = (k : Int) := ⟨i.toNat, by omega⟩
    have hk : k < ps.length := by omega
    have hle := okN_len hok
    have hK : dlvK ps (k : Int) = ps[k] := by unfold dlvK; rw [if_pos h0, Int.toNat_natCast, List.getElem?_eq_getElem hk]; rfl
    rw [h0] at C1
    by_cases hfull : 4096 ≤ ps.length
    · have hE : cpyE ps (k : Int) = 8 := by unfold cpyE; rw [if_pos ⟨h0, hfull⟩]
      have hP : cpyP ps (k : Int) = besP 8 ps := by unfold cpyP; rw [if_neg (by rw [hE]; omega), hE]
      rw [hE, hP]
      obtain ⟨qs, hq⟩ : ∃ qs, besP 8 ps = qs := ⟨_, rfl⟩
      have CB8 : Hid (∀ W, Below w.heap.size w W → Calls Try.prog 22 #[.int .i64 8, .agg #[v]] W fun e w' => NetR qs W e w') := by rw [← hq]; exact CB.out 8
      rw [decide_eq_true hfull] at CF
      rw [hq]
      obtain ⟨p, c, rfl, _⟩ := h
      clear hP hE hK hx hb0 hs0 h0 hq CB hfull hle hi0 hi1
      go_enter Try.func14, Try.ntmps14
      go_wp2_with fail
      refine C1.out.mono ?_
      rintro e w1 ⟨rfl, hb1⟩
      obtain ⟨a0, a1⟩ := HX.out w1 hb1
      have HB1 : Hid (Below W0.heap.size W0 w1) := hb1
      have hBw : Below w.heap.size w w1 := HB0.out.trans (hb1.mono HB0.out.size)
      have CF1 := CF.out w1 hBw
      clear C1 hb1 x0 CF hBw
      go_wp2_with fail
      refine CF1.mono ?_
      rintro e w2 ⟨rfl, hb2⟩
      have hB2 : Below W0.heap.size W0 w2 := HB1.out.trans (hb2.mono HB1.out.size)
      obtain ⟨a0, a1⟩ := HX.out w2 hB2
      have HB2 : Hid (Below W0.heap.size W0 w2) := hB2
      have CB1 := CB8.out w2 (HB0.out.trans (hB2.mono HB0.out.size))
      clear CF1 hb2 hB2 HB1 CB8
      go_wp2_with fail
      refine CB1.mono ?_
      rintro e w3 ⟨p2, c2, rfl, hl2, hn2, hb3⟩
      have hB3 : Below W0.heap.size W0 w3 := HB2.out.trans (hb3.mono HB2.out.size)
      obtain ⟨Wz, hWz, z1, z2, z3, z4, z5, _, _, z6⟩ := set_box (HX.out w3 hB3).2 hl2
      have HF : Hid (PsL Wz (.slice p2 qs.length c2) qs ∧ NewP w.heap.size p2 ∧ Below w.heap.size w Wz) := ⟨z5, hn2.mono (Nat.le_trans HB0.out.size HB2.out.size), z6 _ _ (HB0.out.trans (hB3.mono HB0.out.size)) (by omega)⟩
      clear CB1 hb3 hB3 hl2 hn2 z3 z5 z6
      go_wp2_with fail
      exact bodyPost_ret (v := .tuple #[.agg #[.slice p2 qs.length c2], .int .i64 8]) (by simp [results, Try.results14, go_sem, z4]) rfl ⟨p2, c2, rfl, HF.out⟩
    · have hE : cpyE ps (k : Int) = 0 := by unfold cpyE; rw [if_neg (by omega), h0]
      have hP : cpyP ps (k : Int) = ps ++ [ps[k]] := by unfold cpyP; rw [if_pos hE, hK]
      rw [hE, hP]
      have CN : Hid (∀ b V v', LsL V (.slice (some ⟨b, 0, none⟩) 2 2) [(v, ps), (v', [ps[k]])] → Calls Try.prog 23 #[.slice (some ⟨b, 0, none⟩) 2 2] V fun e w' => NetR (ps ++ [ps[k]]) V e w') := fun b V v' hl => by
        have := netOf_net _ [(v, ps), (v', [ps[k]])] V hl (by simp [allP]; omega)
        simpa [allP] using this
      obtain ⟨qs, hq⟩ : ∃ qs, ps ++ [ps[k]] = qs := ⟨_, rfl⟩
      rw [hq] at CN ⊢
      rw [decide_eq_false hfull] at CF
      obtain ⟨p, c, rfl, hlc, hcc, hl, hs, hn, hp⟩ := h
      obtain ⟨b, o, rfl, hlt, hc⟩ := hp (by omega)
      have hsl := fun W => slice_mid W b o ps.length c k hk hlc
      have q1 : IntKind.i64.wrap ((k : Int) + 1) = (k : Int) + 1 := by rw [IntKind.wrap_i64]; omega
      clear hP hE hK hx hb0 hs0 h0 hq CB hfull hp hc hs hn
      go_enter Try.func14, Try.ntmps14
      go_wp2_with fail
      refine C1.out.mono ?_
      rintro e w1 ⟨rfl, hb1⟩
      obtain ⟨a0, a1⟩ := HX.out w1 hb1
      have HB1 : Hid (Below W0.heap.size W0 w1) := hb1
      have hBw : Below w.heap.size w w1 := HB0.out.trans (hb1.mono HB0.out.size)
      have CF1 := CF.out w1 hBw
      clear C1 hb1 x0 CF hBw
      go_wp2_with fail
      refine CF1.mono ?_
      rintro e w2 ⟨rfl, hb2⟩
      have hB2 : Below W0.heap.size W0 w2 := HB1.out.trans (hb2.mono HB1.out.size)
      obtain ⟨a0, a1⟩ := HX.out w2 hB2
      have HB2 : Hid (Below W0.heap.size W0 w2) := hB2
      have hPw : PsL w2 (.slice (some ⟨b, o, none⟩) ps.length c) ps := HL.out.below (HB0.out.trans (hB2.mono HB0.out.size))
      have hls := two_lists (t := 22) hPw (hPw.mid rfl k hk) rfl
      have HLS1 : Hid _ := hls
      have HLS2 : Hid _ := hls.below (Below.refl _ _).drew
      have HV : Hid (Below w2.heap.size w2 (w2.alloc (.cells #[.slice (some ⟨b, o, none⟩) ps.length c, .slice (some ⟨b, o + k * 3, none⟩) 1 (c - k)] 22))) := one_below _ _
      clear CF1 hb2 hB2 HB1 hPw hls
      have hwl : w.heap.size < w2.heap.size := Nat.lt_of_lt_of_le (by rw [HS0.out]; omega) HB2.out.size
      go_wp2_with fail
      go_region_held3 (fun w' => w'.cell? ⟨w.heap.size, 0, none⟩ = some (.slice (some ⟨b, o, none⟩) ps.length c))
        (first
          | exact (hBz.cell (p := ⟨w.heap.size, 0, none⟩) (Nat.lt_succ_self _)).trans a0
          | exact (hB3.cell (p := ⟨w.heap.size, 0, none⟩) hwl).trans a0
          | exact (HV.out.cell (p := ⟨w.heap.size, 0, none⟩) hwl).trans a0
          | exact (HV.out.drew.cell (p := ⟨w.heap.size, 0, none⟩) hwl).trans a0
          | go_keep)
        ((first
          | (go_at_call 23; first
            | (refine (CN.out _ _ _ HLS1.out).mono ?_; rintro e w3 ⟨p2, c2, rfl, hl2, hn2, hb3⟩; have HN : Hid (NewP w2.heap.size p2) := hn2.mono HV.out.size; have hB3 : Below w2.heap.size w2 w3 := HV.out.trans (hb3.mono HV.out.size); obtain ⟨Wz, hWz, t1, t2, t3, t4, t5, _, _, t6⟩ := set_box (HX.out w3 (HB2.out.trans (hB3.mono HB2.out.size))).2 hl2; have hBz : Below (w.heap.size + 1) w2 Wz := t6 _ _ (hB3.mono hwl) (Nat.le_refl _); have HF : Hid (PsL Wz (.slice p2 qs.length c2) qs ∧ NewP w.heap.size p2 ∧ Below w.heap.size w Wz) := ⟨t5, HN.out.mono (by omega), t6 _ _ (HB0.out.trans ((HB2.out.trans (hB3.mono HB2.out.size)).mono HB0.out.size)) (by omega)⟩; clear hn2 hl2 hb3 t3 t5 t6)
            | (refine (CN.out _ _ _ HLS2.out).mono ?_; rintro e w3 ⟨p2, c2, rfl, hl2, hn2, hb3⟩; have HN : Hid (NewP w2.heap.size p2) := hn2.mono HV.out.size; have hB3 : Below w2.heap.size w2 w3 := HV.out.drew.trans (hb3.mono HV.out.size); obtain ⟨Wz, hWz, t1, t2, t3, t4, t5, _, _, t6⟩ := set_box (HX.out w3 (HB2.out.trans (hB3.mono HB2.out.size))).2 hl2; have hBz : Below (w.heap.size + 1) w2 Wz := t6 _ _ (hB3.mono hwl) (Nat.le_refl _); have HF : Hid (PsL Wz (.slice p2 qs.length c2) qs ∧ NewP w.heap.size p2 ∧ Below w.heap.size w Wz) := ⟨t5, HN.out.mono (by omega), t6 _ _ (HB0.out.trans ((HB2.out.trans (hB3.mono HB2.out.size)).mono HB0.out.size)) (by omega)⟩; clear hn2 hl2 hb3 t3 t5 t6))))
      go_wp2_with fail
      exact bodyPost_ret (v := .tuple #[.agg #[.slice p2 qs.length c2], .int .i64 0]) (by simp [results, Try.results14, go_sem, t4]) rfl ⟨p2, c2, rfl, HF.out⟩
  · have hE : cpyE ps i = misE ps i := by unfold cpyE; rw [if_neg (by omega)]
    have hP : cpyP ps i = besP (misE ps i) ps := by unfold cpyP; rw [hE, if_neg h0]
    rw [hE, hP]
    obtain ⟨E, hE⟩ : ∃ E, misE ps i = E := ⟨_, rfl⟩
    obtain ⟨qs, hq⟩ : ∃ qs, besP (misE ps i) ps = qs := ⟨_, rfl⟩
    have CB8 : Hid (∀ W, Below w.heap.size w W → Calls Try.prog 22 #[.int .i64 (misE ps i), .agg #[v]] W fun e w' => NetR qs W e w') := by rw [← hq]; exact CB.out _
    rw [hq]
    rw [hE] at C1 CB8 h0 ⊢
    have hn0 : (E != 0) = true := by simpa using h0
    have hn1 : (E == 0) = false := beq_eq_false_iff_ne.2 h0
    obtain ⟨p, c, rfl, _⟩ := h
    clear hP hx hb0 hs0 h0 hE hq CB CF
    go_enter Try.func14, Try.ntmps14
    go_wp2_with fail
    refine C1.out.mono ?_
    rintro e w1 ⟨rfl, hb1⟩
    obtain ⟨a0, a1⟩ := HX.out w1 hb1
    have HB1 : Hid (Below W0.heap.size W0 w1) := hb1
    have CB1 := CB8.out w1 (HB0.out.trans (hb1.mono HB0.out.size))
    clear C1 hb1 x0 CB8
    go_wp2_with fail
    refine CB1.mono ?_
    rintro e w3 ⟨p2, c2, rfl, hl2, hn2, hb3⟩
    have hB3 : Below W0.heap.size W0 w3 := HB1.out.trans (hb3.mono HB1.out.size)
    obtain ⟨Wz, hWz, z1, z2, z3, z4, z5, _, _, z6⟩ := set_box (HX.out w3 hB3).2 hl2
    have HF : Hid (PsL Wz (.slice p2 qs.length c2) qs ∧ NewP w.heap.size p2 ∧ Below w.heap.size w Wz) := ⟨z5, hn2.mono (Nat.le_trans HB0.out.size HB1.out.size), z6 _ _ (HB0.out.trans (hB3.mono HB0.out.size)) (by omega)⟩
    clear CB1 hb3 hB3 hl2 hn2 z3 z5 z6
    go_wp2_with fail
    exact bodyPost_ret (v := .tuple #[.agg #[.slice p2 qs.length c2], .int .i64 E]) (by simp [results, Try.results14, go_sem, z4]) rfl ⟨p2, c2, rfl, HF.out⟩
end Go.Proofs.Ytnfgfbmkeiimlaa
