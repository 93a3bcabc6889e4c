/- The reference: what Deliver and Drop answer. -/
import Derived.Test.YtnfgfbmkeiimlaaNs
namespace Go.Proofs.Ytnfgfbmkeiimlaa
open Go.Shelf Go.RowKit Go.Lib Go.Sort
set_option linter.unusedVariables false
set_option linter.unusedSimpArgs false
attribute [local go_sem ↓] Go.wp_at_zero Go.wp_at_succ
set_option maxRecDepth 100000 in
set_option maxHeartbeats 4000000 in
theorem refDeliver_any (v : Value) (i : Int) (ps : List PK) (w : World) (h : PsL w v ps) :
    Calls Try.prog 11 #[.agg #[v], .int .i64 i] w fun e w' => NetP (dlvP ps i) (dlvK ps i) (misE ps i) w e w' := by
  obtain ⟨W0, hW0, hb0, hs0, hx⟩ := boxes3 w v
  have HX : Hid _ := hx
  have HB0 : Hid (Below w.heap.size w W0) := hb0
  have HS0 : Hid (W0.heap.size = w.heap.size + 3) := hs0
  have x0 := (hx W0 (Below.refl _ _)).1
  have C1 : Hid (Calls Try.prog 19 #[.agg #[v]] W0 fun e w' => e = .returned (.int .i64 (chN ps)) ∧ Below W0.heap.size W0 w') := refCheck_any v ps W0 (h.below hb0)
  have CO : Hid (∀ W, Below w.heap.size w W → Calls Try.prog 7 #[.agg #[v]] W fun e w' => NetO ps W e w') := fun W hb => refOwn_any v ps W (h.below hb)
  have HL : Hid (PsL w v ps) := h
  have hmany := h.many
  have HSM : Hid (SmallP ps) := h.small
  rcases chN_cases ps with ⟨e1, e2⟩ | ⟨e1, e2⟩
  · rw [e2] at C1
    have hE : misE ps i = 6 := by unfold misE; rw [if_pos e1]
    have hP : dlvP ps i = [] := by unfold dlvP; rw [hE, if_neg (by omega)]; rfl
    have hK : dlvK ps i = zeroP := by unfold dlvK; rw [hE, if_neg (by omega)]
    rw [hE, hP, hK]
    obtain ⟨p, c, rfl, _⟩ := h
    clear hE hP hK e1 e2 hx hb0 hs0 CO hmany
    go_enter Try.func11, Try.ntmps11
    go_wp2_with fail
    refine C1.out.mono ?_
    rintro e w3 ⟨rfl, hb3⟩
    obtain ⟨Wz, Wa, Wb, Wc, hWz, t1, t2, hWa, hWb, hWc, ca, fa, ⟨ob, cb⟩, fb, ⟨oc, cc⟩, fc, hup, HFIN⟩ := ret_boxes (HX.out w3 hb3).2.1 (HX.out w3 hb3).2.2 (PsL.nil w3) (NewP.none _) (HB0.out.trans (hb3.mono HB0.out.size)) (Nat.le_succ _) 0 0 ⟨#[]⟩
    obtain ⟨f1, f2, f3, f4, f5, f6⟩ := HFIN.out
    have HF : Hid (PsL Wc (.slice none 0 0) [] ∧ NewP w.heap.size none ∧ Below w.heap.size w Wc) := ⟨f1, NewP.none _, f2⟩
    clear f1 f2 HFIN hup C1 hb3
    go_wp2_with fail
    exact bodyPost_ret (v := .tuple #[.agg #[.slice none 0 0], .agg #[.int .i64 0, .int .i64 0, .string ⟨#[]⟩], .int .i64 6]) (by simp [results, Try.results11, go_sem, f3, f4, f5, f6]) rfl ⟨none, 0, rfl, HF.out⟩
  · rw [e2] at C1
    by_cases hi : i < 0 ∨ (ps.length : Int) ≤ i
    · have hE : misE ps i = 7 := by unfold misE; rw [if_neg (by simp [e1]), if_pos hi]
      have hP : dlvP ps i = ps := by unfold dlvP; rw [hE, if_neg (by omega)]; exact besP_id ps (by omega)
      have hK : dlvK ps i = zeroP := by unfold dlvK; rw [hE, if_neg (by omega)]
      rw [hE, hP, hK]
      obtain ⟨p, c, rfl, _⟩ := h
      clear hE hP hK e1 e2 hx hb0 hs0
      go_enter Try.func11, Try.ntmps11
      go_wp2_with fail
      refine C1.out.mono ?_
      rintro e w1 ⟨rfl, hb1⟩
      obtain ⟨a0, a1, a2⟩ := HX.out w1 hb1
      have HB1 : Hid (Below W0.heap.size W0 w1) := hb1
      have CO1 := CO.out w1 (HB0.out.trans (hb1.mono HB0.out.size))
      clear C1 hb1 x0 CO a1 a2
      by_cases h0 : i < 0
      · go_wp2_with fail
        refine CO1.mono ?_
        rintro e w3 ⟨p2, c2, rfl, ho2, hb3⟩
        have hB3 : Below W0.heap.size W0 w3 := HB1.out.trans (hb3.mono HB1.out.size)
        obtain ⟨q2, d2, eq2, hn2⟩ := ho2.shape
        simp only [Value.slice.injEq, true_and] at eq2
        obtain ⟨rfl, rfl⟩ := eq2
        obtain ⟨Wz, Wa, Wb, Wc, hWz, t1, t2, hWa, hWb, hWc, ca, fa, ⟨ob, cb⟩, fb, ⟨oc, cc⟩, fc, hup, HFIN⟩ := ret_boxes (HX.out w3 hB3).2.1 (HX.out w3 hB3).2.2 (ho2.packs hmany HSM.out) (hn2.mono (by have := HS0.out; have := HB1.out.size; omega)) (HB0.out.trans (hB3.mono HB0.out.size)) (Nat.le_succ _) 0 0 ⟨#[]⟩
        obtain ⟨f1, f2, f3, f4, f5, f6⟩ := HFIN.out
        have HF : Hid (PsL Wc (.slice p2 ps.length c2) ps ∧ NewP w.heap.size p2 ∧ Below w.heap.size w Wc) := ⟨f1, hn2.mono (Nat.le_trans HB0.out.size HB1.out.size), f2⟩
        clear f1 f2 HFIN hup CO1 hb3 hB3 hn2 ho2
        go_wp2_with fail
        exact bodyPost_ret (v := .tuple #[.agg #[.slice p2 ps.length c2], .agg #[.int .i64 0, .int .i64 0, .string ⟨#[]⟩], .int .i64 7]) (by simp [results, Try.results11, go_sem, f3, f4, f5, f6]) rfl ⟨p2, c2, rfl, HF.out⟩
      · have h1 : (ps.length : Int) ≤ i := by omega
        go_wp2_with fail
        refine CO1.mono ?_
        rintro e w3 ⟨p2, c2, rfl, ho2, hb3⟩
        have hB3 : Below W0.heap.size W0 w3 := HB1.out.trans (hb3.mono HB1.out.size)
        obtain ⟨q2, d2, eq2, hn2⟩ := ho2.shape
        simp only [Value.slice.injEq, true_and] at eq2
        obtain ⟨rfl, rfl⟩ := eq2
        obtain ⟨Wz, Wa, Wb, Wc, hWz, t1, t2, hWa, hWb, hWc, ca, fa, ⟨ob, cb⟩, fb, ⟨oc, cc⟩, fc, hup, HFIN⟩ := ret_boxes (HX.out w3 hB3).2.1 (HX.out w3 hB3).2.2 (ho2.packs hmany HSM.out) (hn2.mono (by have := HS0.out; have := HB1.out.size; omega)) (HB0.out.trans (hB3.mono HB0.out.size)) (Nat.le_succ _) 0 0 ⟨#[]⟩
        obtain ⟨f1, f2, f3, f4, f5, f6⟩ := HFIN.out
        have HF : Hid (PsL Wc (.slice p2 ps.length c2) ps ∧ NewP w.heap.size p2 ∧ Below w.heap.size w Wc) := ⟨f1, hn2.mono (Nat.le_trans HB0.out.size HB1.out.size), f2⟩
        clear f1 f2 HFIN hup CO1 hb3 hB3 hn2 ho2
        go_wp2_with fail
        exact bodyPost_ret (v := .tuple #[.agg #[.slice p2 ps.length c2], .agg #[.int .i64 0, .int .i64 0, .string ⟨#[]⟩], .int .i64 7]) (by simp [results, Try.results11, go_sem, f3, f4, f5, f6]) rfl ⟨p2, c2, rfl, HF.out⟩
    · obtain ⟨k, rfl⟩ : ∃ k : Nat, i = (k : Int) := ⟨i.toNat, by omega⟩
      have hk : k < ps.length := by omega
      have hle := okN_len e1
      have hE : misE ps (k : Int) = 0 := by unfold misE; rw [if_neg (by simp [e1]), if_neg hi]
      have hP : dlvP ps (k : Int) = ps.take k ++ ps.drop (k + 1) := by unfold dlvP; rw [if_pos hE, Int.toNat_natCast]
      have hK : dlvK ps (k : Int) = ps[k] := by unfold dlvK; rw [if_pos hE, Int.toNat_natCast, List.getElem?_eq_getElem hk]; rfl
      obtain ⟨⟨kf, kt, kx⟩, hf⟩ : ∃ f, ps[k] = f := ⟨_, rfl⟩
      rw [hP, hK, hE, hf]
      have HFK : Hid (ps[k] = ⟨kf, kt, kx⟩) := hf
      obtain ⟨p, c, rfl, hlc, hcc, hl, hs, hn, hp⟩ := h
      obtain ⟨b, o, rfl, hlt, hc⟩ := hp (by omega)
      obtain ⟨qs, hq⟩ : ∃ qs, ps.take k ++ ps.drop (k + 1) = qs := ⟨_, rfl⟩
      have hql : qs.length * 32 ≤ 140737488355328 := by rw [← hq]; simp; omega
      have HQS : Hid (SmallP qs) := by
        rw [← hq]
        intro f hf
        rcases List.mem_append.1 hf with hf | hf
        · exact HSM.out f (List.mem_of_mem_take hf)
        · exact HSM.out f (List.mem_of_mem_drop hf)
      have HQ : Hid (ps.take k ++ ps.drop (k + 1) = qs) := hq
      rw [hq]
      have z0 : (0 : Int) ≤ (k : Int) := by omega
      have z1 : (k : Int) < (ps.length : Int) := by omega
      have z2 : ¬ (k : Int) < 0 := by omega
      have z3 : ¬ (ps.length : Int) ≤ (k : Int) := by omega
      have q1 : IntKind.i64.wrap ((k : Int) + 1) = (k : Int) + 1 := by rw [IntKind.wrap_i64]; omega
      have hs1 := fun W => slice_to W b o ps.length c k (by omega) hcc
      have hs2 : ∀ W, (Instr.slice 22 (.slice (some ⟨b, o, none⟩) ps.length c) (some (.int .i64 ((k : Int) + 1))) none none).run Try.prog W = .ok (.slice (if c = k + 1 then some ⟨b, o, none⟩ else some ⟨b, o + (k + 1) * 3, none⟩) (ps.length - (k + 1)) (c - (k + 1))) W := fun W => slice_from W b o ps.length c (k + 1) (by omega) hlc
      clear hE hP hK hf hq e1 e2 hx hb0 hs0 hp CO hi
      go_enter Try.func11, Try.ntmps11
      go_wp2_with fail
      refine C1.out.mono ?_
      rintro e w1 ⟨rfl, hb1⟩
      obtain ⟨a0, a1, a2⟩ := HX.out w1 hb1
      have HB1 : Hid (Below W0.heap.size W0 w1) := hb1
      have hBw : Below w.heap.size w w1 := HB0.out.trans (hb1.mono HB0.out.size)
      obtain ⟨m0, m1, m2⟩ := (hc.below hlt hBw) k hk
      rw [HFK.out] at m0 m1 m2
      simp only at m0 m1 m2
      have hbl : b < w1.heap.size := Nat.lt_of_lt_of_le hlt hBw.size
      have hwl : w.heap.size < w1.heap.size := Nat.lt_of_lt_of_le (by rw [HS0.out]; omega) hb1.size
      have hPw : PsL w1 (.slice (some ⟨b, o, none⟩) ps.length c) ps := HL.out.below hBw
      have HT := hPw.take rfl k (by omega) (by omega)
      obtain ⟨V, hV⟩ : ∃ V, (w1.alloc (.cells #[] 30)).drew = V := ⟨_, rfl⟩
      have hV2 : w1.drew.alloc (.cells #[] 30) = V := hV
      have hbV : Below w1.heap.size w1 V := by rw [← hV]; exact (one_below _ _).drew
      have hown : OwnP w1.heap.size V (.slice (some ⟨w1.heap.size, 0, none⟩) 0 0) [] := by rw [← hV]; exact (own_mt w1).below (Below.refl _ _).drew
      obtain ⟨v1, W1, e1, ho1, hup1, hlow1, hsz1⟩ := append_run hown hbV.size (HT.below hbV) (by simp; omega) 22
      rw [List.nil_append] at ho1
      have hbW1 : Below w1.heap.size w1 W1 := hup1 _ _ hbV (Nat.le_refl _)
      obtain ⟨u1, d1, rfl, _⟩ := ho1.shape
      have hlk : (ps.take k).length = k := by simp; omega
      rw [hlk] at e1 ho1
      have HBV : Hid (Below w1.heap.size w1 V) := hbV
      have HBW1 : Hid (Below w1.heap.size w1 W1) := hbW1
      clear C1 hb1 x0 hBw hown hup1 hlow1 hsz1 HFK hlk HT
      obtain ⟨v2x, hv2, hs3⟩ : ∃ vx : Value, PsL w1 vx (ps.drop (k + 1)) ∧ ∀ W, (Instr.slice 22 (.slice (some ⟨b, o, none⟩) ps.length c) (some (.int .i64 ((k : Int) + 1))) none none).run Try.prog W = .ok vx W := by
        by_cases hck : c = k + 1
        · have hl1 : ps.length - (k + 1) = 0 := by omega
          have hl2 : c - (k + 1) = 0 := by omega
          have hd0 : ps.drop (k + 1) = [] := List.drop_eq_nil_of_le (by omega)
          refine ⟨.slice (some ⟨b, o, none⟩) 0 0, by rw [hd0]; exact PsL.mt, fun W => ?_⟩
          rw [hs2 W, if_pos hck, hl1, hl2]
        · exact ⟨_, hPw.drop rfl (k + 1) (by omega) (by omega), fun W => by rw [hs2 W, if_neg hck]⟩
      obtain ⟨v2, W2, e2, ho2, hup2, hlow2, hsz2⟩ := append_run ho1 hbW1.size (hv2.below hbW1) (by simp; omega) 22
      rw [HQ.out] at ho2
      obtain ⟨p2, c2, rfl, hn2⟩ := ho2.shape
      have hB2 : Below w1.heap.size w1 W2 := hup2 _ _ hbW1 (Nat.le_refl _)
      obtain ⟨px, nx, cx, rfl⟩ : ∃ px nx cx, v2x = .slice px nx cx := by obtain ⟨p, c, e, _⟩ := hv2; exact ⟨_, _, _, e⟩
      have hBW2 : Below W0.heap.size W0 W2 := HB1.out.trans (hB2.mono HB1.out.size)
      obtain ⟨Wz, Wa, Wb, Wc, hWz, t1, t2, hWa, hWb, hWc, ca, fa, ⟨ob, cb⟩, fb, ⟨oc, cc⟩, fc, hup, HFIN⟩ := ret_boxes (HX.out W2 hBW2).2.1 (HX.out W2 hBW2).2.2 (ho2.packs hql HQS.out) (hn2.mono (by have := HS0.out; have := HB1.out.size; omega)) (HB0.out.trans (hBW2.mono HB0.out.size)) (Nat.le_succ _) kf kt kx
      obtain ⟨hBz, hBc⟩ := hup _ _ (hB2.mono hwl) (Nat.le_refl _)
      have HBZ : Hid _ := hBz
      have HBC : Hid _ := hBc
      have HB2 : Hid (Below w1.heap.size w1 W2) := hB2
      obtain ⟨f1, f2, f3, f4, f5, f6⟩ := HFIN.out
      have HF : Hid (PsL Wc (.slice p2 qs.length c2) qs ∧ NewP w.heap.size p2 ∧ Below w.heap.size w Wc) := ⟨f1, hn2.mono (by omega), f2⟩
      clear f1 f2 HFIN hup hs2 hPw ho1 ho2 hup2 hlow2 hsz2 hbW1 hbV hv2 hn2 hB2 hBW2 hBz hBc a1 a2 HX hc hs hn hl
      go_wp2_with fail
      go_region_held3 (fun w' => w'.cell? ⟨w.heap.size, 0, none⟩ = some (.slice (some ⟨b, o, none⟩) ps.length c) ∧ w'.cell? ⟨b, o + k * 3, none⟩ = some (.int .i64 kf) ∧ w'.cell? ⟨b, o + k * 3 + 1, none⟩ = some (.int .i64 kt) ∧ w'.cell? ⟨b, o + k * 3 + 2, none⟩ = some (.string kx))
        (first
          | (go_split_ands; refine ⟨?_, ?_, ?_, ?_⟩ <;> (first
            | (rw [HBZ.out.cell (p := ⟨_, _, none⟩) (by first | exact Nat.lt_succ_self _ | exact Nat.lt_succ_of_lt hlt)]; first | exact a0 | exact m0 | exact m1 | exact m2)
            | (rw [HBC.out.cell (p := ⟨_, _, none⟩) (by first | exact Nat.lt_succ_self _ | exact Nat.lt_succ_of_lt hlt)]; first | exact a0 | exact m0 | exact m1 | exact m2)
            | (rw [HB2.out.cell (p := ⟨_, _, none⟩) (by first | exact hwl | exact hbl)]; first | exact a0 | exact m0 | exact m1 | exact m2)
            | (rw [HBW1.out.cell (p := ⟨_, _, none⟩) (by first | exact hwl | exact hbl)]; first | exact a0 | exact m0 | exact m1 | exact m2)
            | (rw [HBV.out.cell (p := ⟨_, _, none⟩) (by first | exact hwl | exact hbl)]; first | exact a0 | exact m0 | exact m1 | exact m2)))
          | go_keep)
        ((first
          | (refine step_append22 _ rfl _ _ rfl _ _ _ _ rfl rfl e1 ?_)
          | (refine step_append22 _ rfl _ _ rfl _ _ _ _ rfl rfl e2 ?_)))
      go_wp2_with fail
      exact bodyPost_ret (v := .tuple #[.agg #[.slice p2 qs.length c2], .agg #[.int .i64 kf, .int .i64 kt, .string kx], .int .i64 0]) (by simp [results, Try.results11, go_sem, f3, f4, f5, f6]) rfl ⟨p2, c2, rfl, HF.out⟩
end Go.Proofs.Ytnfgfbmkeiimlaa
