/- The reference: what Send answers. -/
import Derived.Test.YtnfgfbmkeiimlaaNr
namespace Go.Proofs.Ytnfgfbmkeiimlaa
open Go.Shelf Go.RowKit Go.Lib Go.Sort
set_option linter.unusedVariables false
set_option linter.unusedSimpArgs false
attribute [local go_sem ↓] Go.wp_at_zero Go.wp_at_succ
theorem besP_id {er : Int} (ps : List PK) (h : er ≠ 6) : besP er ps = ps := by unfold besP; rw [if_neg h]
/-- A net that lies in its box, and a box for what is answered. -/
def TwoB (w : World) (p : Option Addr) (c : Nat) (ps : List PK) (W : World) : Prop :=
  W.cell? ⟨w.heap.size, 0, none⟩ = some (.slice p ps.length c) ∧ W.heap[w.heap.size]? = some (.cells #[.slice p ps.length c] 24 (0, 0)) ∧ W.heap[w.heap.size + 1]? = some (.cells #[.slice none 0 0] 24 (0, 0)) ∧ OwnP (w.heap.size + 2) W (.slice p ps.length c) ps ∧ Below w.heap.size w W
theorem TwoB.below {w W W' : World} {p : Option Addr} {c : Nat} {ps : List PK} (h : TwoB w p c ps W) (hb : Below W.heap.size W W') : TwoB w p c ps W' := by
  obtain ⟨h1, h2, h3, h4, h5⟩ := h
  have l1 := (Array.getElem?_eq_some_iff.1 h2).1
  have l2 := (Array.getElem?_eq_some_iff.1 h3).1
  exact ⟨by rw [hb.cell (p := ⟨w.heap.size, _, none⟩) l1]; exact h1, by rw [hb.block _ l1]; exact h2, by rw [hb.block _ l2]; exact h3, h4.below hb, h5.trans (hb.mono h5.size)⟩
/-- What lies in the box is answered. -/
theorem TwoB.ret {w W : World} {p : Option Addr} {c : Nat} {ps : List PK} (h : TwoB w p c ps W) (hm : ps.length * 32 ≤ 140737488355328) (hs : SmallP ps) :
    ∃ Wz, W.setCell ⟨w.heap.size + 1, 0, none⟩ (.slice p ps.length c) = Wz ∧ W.cell? ⟨w.heap.size + 1, 0, none⟩ = some (.slice none 0 0) ∧ W.frozen? ⟨w.heap.size + 1, 0, none⟩ = false ∧ Wz.cell? ⟨w.heap.size + 1, 0, none⟩ = some (.slice p ps.length c) ∧
      Hid (PsL Wz (.slice p ps.length c) ps ∧ NewP w.heap.size p ∧ Below w.heap.size w Wz) := by
  obtain ⟨h1, h2, h3, h4, h5⟩ := h
  obtain ⟨Wz, hWz, z1, z2, z3, z4, z5, zo, zs, z6⟩ := set_box h3 (h4.packs hm hs)
  obtain ⟨p', c', e, hn⟩ := h4.shape
  simp only [Value.slice.injEq, true_and] at e
  obtain ⟨rfl, rfl⟩ := e
  exact ⟨Wz, hWz, z1, z2, z4, z5, hn.mono (by omega), z6 _ _ h5 (by omega)⟩
/-- A net of its own memory is put into the box. -/
theorem TwoB.new {w W0 W1 W : World} {v : Value} {p : Option Addr} {c : Nat} {ps : List PK} (h0 : W.heap[w.heap.size]? = some (.cells #[v] 24 (0, 0))) (h1 : W.heap[w.heap.size + 1]? = some (.cells #[.slice none 0 0] 24 (0, 0))) (ho : OwnP (w.heap.size + 2) W (.slice p ps.length c) ps) (hb : Below w.heap.size w W) (hm : ps.length * 32 ≤ 140737488355328) (hs : SmallP ps) :
    ∃ Wz, W.setCell ⟨w.heap.size, 0, none⟩ (.slice p ps.length c) = Wz ∧ W.cell? ⟨w.heap.size, 0, none⟩ = some v ∧ W.frozen? ⟨w.heap.size, 0, none⟩ = false ∧ Hid (TwoB w p c ps Wz) := by
  obtain ⟨Wz, hWz, z1, z2, z3, z4, z5, zo, zs, z6⟩ := set_box h0 (ho.packs hm hs)
  exact ⟨Wz, hWz, z1, z2, z4, z3, by rw [zo _ (by omega)]; exact h1, ho.but (g := w.heap.size) (by omega) zo, z6 _ _ hb (Nat.le_refl _)⟩
theorem boxes2b (w : World) (v : Value) : ∃ W0, (w.alloc (.cells #[v] 24)).alloc (.cells #[.slice none 0 0] 24) = W0 ∧ Below w.heap.size w W0 ∧ W0.heap.size = w.heap.size + 2 ∧
    (∀ W, Below W0.heap.size W0 W → W.cell? ⟨w.heap.size, 0, none⟩ = some v ∧ W.heap[w.heap.size]? = some (.cells #[v] 24 (0, 0)) ∧ W.heap[w.heap.size + 1]? = some (.cells #[.slice none 0 0] 24 (0, 0))) := by
  refine ⟨_, rfl, two_below _ _ _, by simp, fun W hb => ?_⟩
  have g0 : W.heap[w.heap.size]? = some (.cells #[v] 24 (0, 0)) := by
    rw [hb.block _ (by simp; omega), heap_alloc_old _ _ (by simp)]; exact heap_alloc_new w _
  refine ⟨cell_of_row g0 rfl, g0, ?_⟩
  rw [hb.block _ (by simp)]
  have := heap_alloc_new (w.alloc (.cells #[v] 24)) (.cells #[.slice none 0 0] 24)
  simpa using this
set_option maxRecDepth 100000 in
set_option maxHeartbeats 4000000 in
theorem refSend_any (v : Value) (f t : Int) (x : ByteArray) (ps : List PK) (w : World) (h : PsL w v ps) :
    Calls Try.prog 9 #[.agg #[v], .int .i64 f, .int .i64 t, .string x] w fun e w' => NetE (sndP ps f t x) (refE ps f t x) w e w' := by
  obtain ⟨W0, hW0, hb0, hs0, hx⟩ := boxes2b w v
  have HX : Hid _ := hx
  have HB0 : Hid (Below w.heap.size w W0) := hb0
  have HS0 : Hid (W0.heap.size = w.heap.size + 2) := hs0
  have x0 := (hx W0 (Below.refl _ _)).1
  have C1 : Hid (Calls Try.prog 19 #[.agg #[v]] W0 fun e w' => e = .returned (.int .i64 (chN ps)) ∧ Below W0.heap.size W0 w') := refCheck_any v ps W0 (h.below hb0)
  have CO : Hid (∀ W, Below w.heap.size w W → Calls Try.prog 7 #[.agg #[v]] W fun e w' => NetO ps W e w') := fun W hb => refOwn_any v ps W (h.below hb)
  have CN : Hid (∀ n W, Calls Try.prog 24 #[.int .i64 n] W fun e w' => e = .returned (.bool (nodeB n)) ∧ Below W.heap.size W w') := refNode_any
  have hmany := h.many
  have HSM : Hid (SmallP ps) := h.small
  rcases chN_cases ps with ⟨e1, e2⟩ | ⟨e1, e2⟩
  · rw [e2] at C1
    have hE : refE ps f t x = 6 := by unfold refE; rw [if_pos e1]
    have hP : sndP ps f t x = [] := by unfold sndP; rw [hE, if_neg (by omega)]; rfl
    rw [hE, hP]
    obtain ⟨p, c, rfl, _⟩ := h
    clear hE hP e1 e2 hx hb0 hs0 CO CN hmany
    go_enter Try.func9, Try.ntmps9
    go_wp2_with fail
    refine C1.out.mono ?_
    rintro e w1 ⟨rfl, hb1⟩
    obtain ⟨Wz, hWz, z1, z2, z3, z4, z5, _, _, z6⟩ := set_box (HX.out w1 hb1).2.2 (PsL.nil w1)
    have HF : Hid (PsL Wz (.slice none 0 0) [] ∧ NewP w.heap.size none ∧ Below w.heap.size w Wz) := ⟨z5, NewP.none _, z6 _ _ (HB0.out.trans (hb1.mono HB0.out.size)) (by omega)⟩
    clear C1 hb1 z3 z5 z6
    go_wp2_with fail
    exact bodyPost_ret (v := .tuple #[.agg #[.slice none 0 0], .int .i64 6]) (by simp [results, Try.results9, go_sem, z4]) rfl ⟨none, 0, rfl, HF.out⟩
  · rw [e2] at C1
    have HQ : Hid (refE ps f t x = if nodeB f = false ∨ nodeB t = false then 2 else if 65536 < x.size then 4 else if 4096 ≤ ps.length then 8 else 0) := hid (by unfold refE; rw [if_neg (by simp [e1])])
    have HP : Hid (∀ E, refE ps f t x = E → E ≠ 0 → E ≠ 6 → sndP ps f t x = ps) := fun E hE h0 h6 => by unfold sndP; rw [hE, if_neg h0, besP_id ps h6]
    have hle := okN_len e1
    obtain ⟨p, c, rfl, _⟩ := h
    clear e1 e2 hx hb0 hs0
    go_enter Try.func9, Try.ntmps9
    go_wp2_with fail
    refine C1.out.mono ?_
    rintro e w1 ⟨rfl, hb1⟩
    obtain ⟨a0, a1, a2⟩ := HX.out w1 hb1
    have HB1 : Hid (Below W0.heap.size W0 w1) := hb1
    have CO1 := CO.out w1 (HB0.out.trans (hb1.mono HB0.out.size))
    clear C1 hb1 x0 CO a1 a2
    go_wp2_with fail
    refine CO1.mono ?_
    rintro e w2 ⟨p2, c2, rfl, ho2, hb2⟩
    have hB2 : Below W0.heap.size W0 w2 := HB1.out.trans (hb2.mono HB1.out.size)
    obtain ⟨_, a1, a2⟩ := HX.out w2 hB2
    obtain ⟨Wn, hWn, n1, n2, HT⟩ := TwoB.new (W0 := W0) (W1 := w1) a1 a2 (ho2.mono (by have := HS0.out; have := HB1.out.size; omega)) (HB0.out.trans (hB2.mono HB0.out.size)) hmany HSM.out
    have v0 := HT.out.1
    clear CO1 hb2 hB2 ho2 a1 a2 HX HB0 HB1 a0
    go_wp2_with fail
    refine (CN.out _ _).mono ?_
    rintro e w3 ⟨rfl, hb3⟩
    have HT3 : Hid (TwoB w p2 c2 ps w3) := HT.out.below hb3
    have v3 := HT3.out.1
    clear hb3 v0 HT
    cases hf : nodeB f
    · have HE : Hid (refE ps f t x = 2) := hid (by rw [HQ.out, if_pos (.inl hf)])
      obtain ⟨Wz, hWz, z1, z2, z4, HF⟩ := HT3.out.ret hmany HSM.out
      have HR : Hid (sndP ps f t x = ps) := HP.out 2 HE.out (by omega) (by omega)
      clear HT3
      go_wp2_with fail
      exact bodyPost_ret (v := .tuple #[.agg #[.slice p2 ps.length c2], .int .i64 2]) (by simp [results, Try.results9, go_sem, z4]) rfl (by rw [HE.out, HR.out]; exact ⟨p2, c2, rfl, HF.out⟩)
    · go_wp2_with fail
      refine (CN.out _ _).mono ?_
      rintro e w4 ⟨rfl, hb4⟩
      have HT4 : Hid (TwoB w p2 c2 ps w4) := HT3.out.below hb4
      have v4 := HT4.out.1
      clear hb4 v3 HT3
      cases ht : nodeB t
      · have HE : Hid (refE ps f t x = 2) := hid (by rw [HQ.out, if_pos (.inr ht)])
        obtain ⟨Wz, hWz, z1, z2, z4, HF⟩ := HT4.out.ret hmany HSM.out
        have HR : Hid (sndP ps f t x = ps) := HP.out 2 HE.out (by omega) (by omega)
        clear HT4
        go_wp2_with fail
        exact bodyPost_ret (v := .tuple #[.agg #[.slice p2 ps.length c2], .int .i64 2]) (by simp [results, Try.results9, go_sem, z4]) rfl (by rw [HE.out, HR.out]; exact ⟨p2, c2, rfl, HF.out⟩)
      · have HQ2 : Hid (refE ps f t x = if 65536 < x.size then 4 else if 4096 ≤ ps.length then 8 else 0) := hid (by rw [HQ.out, if_neg (by simp [hf, ht])])
        by_cases hl : 65536 < (x.size : Int)
        · have HE : Hid (refE ps f t x = 4) := hid (by rw [HQ2.out, if_pos (by omega)])
          obtain ⟨Wz, hWz, z1, z2, z4, HF⟩ := HT4.out.ret hmany HSM.out
          have HR : Hid (sndP ps f t x = ps) := HP.out 4 HE.out (by omega) (by omega)
          clear HT4
          go_wp2_with fail
          exact bodyPost_ret (v := .tuple #[.agg #[.slice p2 ps.length c2], .int .i64 4]) (by simp [results, Try.results9, go_sem, z4]) rfl (by rw [HE.out, HR.out]; exact ⟨p2, c2, rfl, HF.out⟩)
        · by_cases hl2 : 4096 ≤ (ps.length : Int)
          · have HE : Hid (refE ps f t x = 8) := hid (by rw [HQ2.out, if_neg (by omega), if_pos (by omega)])
            obtain ⟨Wz, hWz, z1, z2, z4, HF⟩ := HT4.out.ret hmany HSM.out
            have HR : Hid (sndP ps f t x = ps) := HP.out 8 HE.out (by omega) (by omega)
            clear HT4
            go_wp2_with fail
            exact bodyPost_ret (v := .tuple #[.agg #[.slice p2 ps.length c2], .int .i64 8]) (by simp [results, Try.results9, go_sem, z4]) rfl (by rw [HE.out, HR.out]; exact ⟨p2, c2, rfl, HF.out⟩)
          · have hE : refE ps f t x = 0 := by rw [HQ2.out, if_neg (by omega), if_neg (by omega)]
            have HE : Hid (refE ps f t x = 0) := hE
            have HR : Hid (sndP ps f t x = ps ++ [⟨f, t, x⟩]) := hid (by unfold sndP; rw [if_pos hE])
            obtain ⟨U, hU⟩ : ∃ U, w4.alloc (.cells #[.int .i64 f, .int .i64 t, .string x] 30) = U := ⟨_, rfl⟩
            have hbU : Below w4.heap.size w4 U := by rw [← hU]; exact one_below _ _
            have hTU := HT4.out.below hbU
            have hone : PsL U (.slice (some ⟨w4.heap.size, 0, none⟩) 1 1) [⟨f, t, x⟩] := by rw [← hU]; exact one_pack w4 f t x (by omega)
            have hsU : w.heap.size + 2 ≤ U.heap.size := by have := (Array.getElem?_eq_some_iff.1 hTU.2.2.1).1; omega
            obtain ⟨v', W', e, ho', hup, hlow, hsz⟩ := append_run hTU.2.2.2.1 hsU hone (by simp; omega) 22
            obtain ⟨qs, hq⟩ : ∃ qs, ps ++ [(⟨f, t, x⟩ : PK)] = qs := ⟨_, rfl⟩
            have hql : qs.length * 32 ≤ 140737488355328 := by rw [← hq]; simp; omega
            have hqs : SmallP qs := by
              rw [← hq]
              intro k hk
              rcases List.mem_append.1 hk with hk | hk
              · exact HSM.out k hk
              · simp only [List.mem_singleton] at hk
                subst hk
                show x.size ≤ _
                omega
            rw [hq] at ho'
            rw [hq] at HR
            obtain ⟨p5, c5, rfl, _⟩ := ho'.shape
            obtain ⟨Wn5, hWn5, m1, m2, HT5⟩ := TwoB.new (W0 := W0) (W1 := w1) (w := w) (by rw [hlow _ (by omega)]; exact hTU.2.1) (by rw [hlow _ (by omega)]; exact hTU.2.2.1) ho' (hup _ _ hTU.2.2.2.2 (by omega)) hql hqs
            obtain ⟨Wz, hWz, z1, z2, z4, HF⟩ := HT5.out.ret hql hqs
            have vU := hTU.1
            have v5 := HT5.out.1
            clear hE hbU hTU hone hsU ho' hup hlow hsz hq hql hqs HT5 HT4
            go_wp2_with (at_builtin; refine Lib.wpList_append_run _ rfl _ _ _ _ rfl _ _ rfl rfl _ _ e ?_)
            exact bodyPost_ret (v := .tuple #[.agg #[.slice p5 qs.length c5], .int .i64 0]) (by simp [results, Try.results9, go_sem, z4]) rfl (by rw [HE.out, HR.out]; exact ⟨p5, c5, rfl, HF.out⟩)
end Go.Proofs.Ytnfgfbmkeiimlaa
