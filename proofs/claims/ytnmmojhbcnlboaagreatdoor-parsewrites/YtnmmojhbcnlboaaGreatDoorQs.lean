/- The clauses of a query, one behind the other; the query. -/
import Derived.Test.YtnmmojhbcnlboaaGreatDoorQqQr
namespace Go.Proofs.YtnmmojhbcnlboaaGreatDoor
open Go.Shelf Go.RowKit Go.Lib Go.Sort
set_option linter.unusedVariables false
set_option linter.unusedSimpArgs false
attribute [local go_sem ↓] Go.wp_at_zero Go.wp_at_succ
/-- Clauses from the number n on. -/
def clausesR (en : Int) : Nat → Nat → Qry → PS → Res Qry
  | 0, n, q, s => .inr (q, s)
  | f + 1, n, q, s => if n < 4 ∧ comesP clsP s = false then
      andR (takeP en opnP s) fun _ s => andR (clauseM en n q s) fun y s => andR (takeP en clsP s) fun _ s => clausesR en f y.2 y.1 s
    else .inr (q, s)
theorem clausesR_stop {en : Int} {f n : Nat} {q : Qry} {s : PS} (h : ¬ (n < 4 ∧ comesP clsP s = false)) : clausesR en f n q s = .inr (q, s) := by
  cases f with
  | zero => rfl
  | succ f => unfold clausesR; rw [if_neg h]
theorem clausesR_go {en : Int} {f n : Nat} {q : Qry} {s : PS} (h : n < 4 ∧ comesP clsP s = false) : clausesR en (f + 1) n q s = andR (takeP en opnP s) fun _ s => andR (clauseM en n q s) fun y s => andR (takeP en clsP s) fun _ s => clausesR en f y.2 y.1 s := by
  rw [clausesR, if_pos h]
set_option maxRecDepth 100000 in
set_option maxHeartbeats 16000000 in
theorem clauses_any (base : Nat) (K : Nat → Prop) (B Q : Nat) (en : Int) (w : World) (q : Qry) (x : PS) (hp : QPre base K B Q en w q x) :
    Calls Tryz.prog 72 #[.pointer (some ⟨B, 0, none⟩), .pointer (some ⟨Q, 0, none⟩)] w fun e w' => OutQ base K B Q en w (clausesR en 5 0 q x) e w' := by
  obtain ⟨W0, hW0⟩ : ∃ W0, w.alloc (.cells #[.string ⟨#[106, 111, 105, 110]⟩, .func (.func 87) #[.pointer (some ⟨B, 0, none⟩)] #[], .string ⟨#[119, 104, 101, 114, 101]⟩, .func (.func 88) #[.pointer (some ⟨B, 0, none⟩)] #[], .string ⟨#[103, 114, 111, 117, 112]⟩, .func (.func 89) #[.pointer (some ⟨B, 0, none⟩)] #[], .string ⟨#[103, 101, 116]⟩, .func (.func 90) #[.pointer (some ⟨B, 0, none⟩)] #[]] 133) = W0 := ⟨_, rfl⟩
  have hb0 : Below w.heap.size w W0 := by rw [← hW0]; exact below_alloc _ _
  have hg0 : W0.heap[w.heap.size]? = some (.cells (clC B).toArray 133 (0, 0)) := by rw [← hW0]; exact heap_alloc_new _ _
  have hl0 : w.heap.size < W0.heap.size := (Array.getElem?_eq_some_iff.1 hg0).1
  have HP0 := hid (hp.below hb0)
  have HK0 : Hid (Kept (fun b => b < w.heap.size ∧ b ≠ B ∧ b ≠ Q) w W0) := kept_of (fun b h => h.1) hb0
  have HG0 := hid hg0
  have HNE : Hid (w.heap.size ≠ B ∧ w.heap.size ≠ Q) := ⟨by have := hp.rd.lt; omega, by have := hp.hQ; have := hp.hb; omega⟩
  obtain ⟨R1, hR1⟩ : ∃ R1, clausesR en 5 0 q x = R1 := ⟨_, rfl⟩
  have HR := hid hR1
  have HR1 : Hid (clausesR en 5 0 q x = R1) := hR1
  clear hp hb0 hg0 hl0 hR1
  go_enter Tryz.func72, Tryz.ntmps72
  go_wp2_with fail
  go_loopg [4] 5 (fun gf s4 wx => ∃ (n L o f : Nat) (qi : Qry) (xi : PS), s4 = .slice (some ⟨w.heap.size, o, none⟩) L L ∧ n + L = 4 ∧ (0 < L → o = n * 2) ∧ L < f ∧ L < gf ∧ Hid (QPre base K B Q en wx qi xi) ∧ Hid (Kept (fun b => b < w.heap.size ∧ b ≠ B ∧ b ≠ Q) w wx) ∧ Hid (wx.heap[w.heap.size]? = some (.cells (clC B).toArray 133 (0, 0))) ∧ Hid (clausesR en f n qi xi = R1))
  case atStart => exact ⟨0, 4, 0, 5, q, x, rfl, rfl, fun _ => rfl, by omega, by omega, HP0, HK0, HG0, HR1⟩
  case round =>
    clear HP0 HK0 HG0 HR1 hW0
    obtain ⟨n, L, o, f, qi, xi, rfl, hnL, hoL, hfL, hgL, HPI, HKI, HGI, HRI⟩ := hrel
    obtain ⟨g', rfl⟩ : ∃ g', gk = g' + 1 := ⟨gk - 1, by omega⟩
    obtain ⟨wa, hwa⟩ : ∃ wa, wa = wr := ⟨_, rfl⟩
    subst hwa
    by_cases hL : 0 < L
    · have y0 : (0 : Int) < (L : Int) := by omega
      have ho := hoL hL
      have HH : Hid (n + L = 4 ∧ L < f ∧ L < g' + 1 ∧ o = n * 2) := ⟨hnL, hfL, hgL, ho⟩
      obtain ⟨W1, hW1⟩ : ∃ W1, wa.alloc (.cells #[.func (.func 73) #[] #[]] 117) = W1 := ⟨_, rfl⟩
      have C1 := hid (comes_one 73 clsP enters73 isClose_any K wa B en xi HPI.out.rd)
      rw [hW1] at C1
      obtain ⟨D, hD⟩ : ∃ D, comesP clsP xi = D := ⟨_, rfl⟩
      have HD := hid hD
      rw [hD] at C1
      clear hoL hnL hfL hgL ho hD
      go_wp2_with fail
      refine C1.out.mono ?_
      rintro e w1 ⟨rfl, hb1⟩
      have HP1 := hid (HPI.out.below hb1)
      have HK1 : Hid (Kept (fun b => b < w.heap.size ∧ b ≠ B ∧ b ≠ Q) w w1) := KQ.call HKI.out (kept_below hb1)
      have HG1 : Hid (w1.heap[w.heap.size]? = some (.cells (clC B).toArray 133 (0, 0))) := (hb1.block _ (Array.getElem?_eq_some_iff.1 HGI.out).1).trans HGI.out
      clear C1 hb1 HPI HKI HGI hW1
      cases D with
      | true =>
        have HF : Hid (OutQ base K B Q en w (clausesR en 5 0 q x) (.returned (.tuple #[])) w1) := ⟨HK1.out, .inr ⟨qi, xi, by rw [HR.out, ← HRI.out]; exact clausesR_stop (by rw [HD.out]; simp), rfl, HP1.out⟩⟩
        clear HP1 HK1 HG1 HRI HR HD
        go_wp2_with fail
        go_end0
        exact HF.out
      | false =>
        obtain ⟨f', hf'⟩ : ∃ f', f = f' + 1 := ⟨f - 1, by have := HH.out; omega⟩
        have HR2 : Hid ((andR (takeP en opnP xi) fun _ s => andR (clauseM en n qi s) fun y s => andR (takeP en clsP s) fun _ s => clausesR en f' y.2 y.1 s) = R1) := by
          show _ = _
          rw [← HRI.out, hf']
          exact (clausesR_go ⟨by have := HH.out; omega, HD.out⟩).symm
        have HF' : Hid (f = f' + 1) := hf'
        obtain ⟨W2, hW2⟩ : ∃ W2, w1.alloc (.cells #[.func (.func 69) #[] #[]] 117) = W2 := ⟨_, rfl⟩
        have C2 := hid (take_one 69 opnP enters69 isOpen_any K w1 B en xi HP1.out.rd)
        rw [hW2] at C2
        clear hf' HRI HD
        go_wp2_with fail
        refine C2.out.mono ?_
        rintro e w2 ⟨hk2, ⟨y, a, hr, rfl⟩ | ⟨t0, x1, v, hr, rfl, ⟨rfl, _⟩, hrd⟩⟩
        · have HF : Hid (OutQ base K B Q en w (clausesR en 5 0 q x) (faultE y a) w2) := ⟨KQ.call HK1.out hk2, .inl ⟨y, a, by rw [HR.out, ← HR2.out, hr]; rfl, rfl⟩⟩
          clear C2 hk2 hr
          unfold faultE at HF ⊢
          go_wp2_with fail
          exact ⟨rfl, HF.out⟩
        · obtain ⟨tv, htv⟩ : ∃ tv, t0.v = tv := ⟨_, rfl⟩
          rw [htv]
          have HP2 := hid (HP1.out.step hk2 hrd)
          have HK2 : Hid (Kept (fun b => b < w.heap.size ∧ b ≠ B ∧ b ≠ Q) w w2) := KQ.call HK1.out hk2
          have HG2 : Hid (w2.heap[w.heap.size]? = some (.cells (clC B).toArray 133 (0, 0))) := (hk2.block _ ⟨(Array.getElem?_eq_some_iff.1 HG1.out).1, HNE.out.1⟩).trans HG1.out
          have HR3 : Hid ((andR (clauseM en n qi x1) fun y s => andR (takeP en clsP s) fun _ s => clausesR en f' y.2 y.1 s) = R1) := by show _ = _; rw [← HR2.out, hr]; rfl
          have C3 := hid (clause_any w.heap.size o n L base K B Q en w2 qi x1 HP2.out HG2.out HNE.out.1 HNE.out.2 HH.out.1 hL HH.out.2.2.2)
          clear C2 hk2 hr hrd htv HR2 HP1 HK1 HG1 hW2
          go_wp2_with fail
          refine C3.out.mono ?_
          rintro e w3 ⟨hk3, ⟨y, a, hr, rfl⟩ | ⟨q3, x3, m3, L3, o3, hr, rfl, hm3, ho3, hp3⟩⟩
          · have HF : Hid (OutQ base K B Q en w (clausesR en 5 0 q x) (faultE y a) w3) := ⟨HK2.out.trans (hk3.less fun b hb => ⟨Nat.lt_of_lt_of_le hb.1 HK2.out.size, hb.2⟩), .inl ⟨y, a, by rw [HR.out, ← HR3.out, hr]; rfl, rfl⟩⟩
            clear C3 hk3 hr
            unfold faultE at HF ⊢
            go_wp2_with fail
            exact ⟨rfl, HF.out⟩
          · have hm4 : n < m3 := by
              by_cases h : n < m3
              · exact h
              · exfalso
                have h2 := hr
                unfold clauseM at h2
                cases hh : takeP en (atomP (clausesP.drop n)) x1 with
                | inl e => rw [hh] at h2; cases h2
                | inr z =>
                  obtain ⟨tz, sz⟩ := z
                  rw [hh] at h2
                  obtain ⟨J, hJ4, hJi, _⟩ := word_in n tz (by have := HH.out; omega) (take_len hh).2
                  have h3 : (andR (clauseR en (idxP tz.t) qi sz) fun q s => .inr ((q, idxP tz.t + 1), s)) = (.inr ((q3, m3), x3) : Res (Qry × Nat)) := h2
                  rw [hJi] at h3
                  cases h4 : clauseR en (n + J) qi sz with
                  | inl e => rw [h4] at h3; cases h3
                  | inr z4 =>
                    obtain ⟨q4, s4⟩ := z4
                    rw [h4] at h3
                    have h5 := (Prod.mk.inj (Prod.mk.inj (Sum.inr.inj h3)).1).2
                    omega
            have HP3 := hid hp3
            have HK3 : Hid (Kept (fun b => b < w.heap.size ∧ b ≠ B ∧ b ≠ Q) w w3) := HK2.out.trans (hk3.less fun b hb => ⟨Nat.lt_of_lt_of_le hb.1 HK2.out.size, hb.2⟩)
            have HG3 : Hid (w3.heap[w.heap.size]? = some (.cells (clC B).toArray 133 (0, 0))) := (hk3.block _ ⟨(Array.getElem?_eq_some_iff.1 HG2.out).1, HNE.out⟩).trans HG2.out
            have HR4 : Hid ((andR (takeP en clsP x3) fun _ s => clausesR en f' m3 q3 s) = R1) := by show _ = _; rw [← HR3.out, hr]; rfl
            obtain ⟨W4, hW4⟩ : ∃ W4, w3.alloc (.cells #[.func (.func 73) #[] #[]] 117) = W4 := ⟨_, rfl⟩
            have C4 := hid (take_one 73 clsP enters73 isClose_any K w3 B en x3 hp3.rd)
            rw [hW4] at C4
            have HM : Hid (m3 + L3 = 4 ∧ (0 < L3 → o3 = m3 * 2) ∧ n < m3) := ⟨hm3, ho3, hm4⟩
            clear C3 hk3 hr hp3 hm3 ho3 hm4 HR3 HP2 HK2 HG2
            go_wp2_with fail
            refine C4.out.mono ?_
            rintro e w4 ⟨hk4, ⟨y, a, hr, rfl⟩ | ⟨t4, x4, v, hr, rfl, ⟨rfl, _⟩, hrd⟩⟩
            · have HF : Hid (OutQ base K B Q en w (clausesR en 5 0 q x) (faultE y a) w4) := ⟨KQ.call HK3.out hk4, .inl ⟨y, a, by rw [HR.out, ← HR4.out, hr]; rfl, rfl⟩⟩
              clear C4 hk4 hr
              unfold faultE at HF ⊢
              go_wp2_with fail
              exact ⟨rfl, HF.out⟩
            · obtain ⟨tv4, htv4⟩ : ∃ tv, t4.v = tv := ⟨_, rfl⟩
              rw [htv4]
              have HP4 := hid (HP3.out.step hk4 hrd)
              have HK4 : Hid (Kept (fun b => b < w.heap.size ∧ b ≠ B ∧ b ≠ Q) w w4) := KQ.call HK3.out hk4
              have HG4 : Hid (w4.heap[w.heap.size]? = some (.cells (clC B).toArray 133 (0, 0))) := (hk4.block _ ⟨(Array.getElem?_eq_some_iff.1 HG3.out).1, HNE.out.1⟩).trans HG3.out
              have HR5 : Hid (clausesR en f' m3 q3 x4 = R1) := by show _ = _; rw [← HR4.out, hr]; rfl
              clear C4 hk4 hr hrd htv4 HR4 HP3 HK3 HG3 hW4
              go_wp2_with fail
              go_roundg g'
              case measure => omega
              case rel => exact ⟨m3, L3, o3, f', q3, x4, rfl, HM.out.1, HM.out.2.1, by have := HM.out; have := HH.out; have := HF'.out; omega, by have := HM.out; have := HH.out; omega, HP4, HK4, HG4, HR5⟩
    · have hL0 : L = 0 := by omega
      have HF : Hid (OutQ base K B Q en w (clausesR en 5 0 q x) (.returned (.tuple #[])) wa) := ⟨HKI.out, .inr ⟨qi, xi, by rw [HR.out, ← HRI.out]; exact clausesR_stop (by omega), rfl, HPI.out⟩⟩
      subst hL0
      clear hoL hnL hfL hgL hL HPI HKI HGI HRI HR
      go_wp2_with fail
      go_end0
      exact HF.out
end Go.Proofs.YtnmmojhbcnlboaaGreatDoor
