/- The clauses of a query, one behind the other; the query. -/
import Derived.Test.YtfifphfihdhlaaaGreatDoorQqQr
set_option maxRecDepth 100000
set_option maxHeartbeats 32000000
namespace Go.Proofs.YtfifphfihdhlaaaGreatDoor
open Go.Shelf Go.RowKit Go.Lib Go.Sort
set_option linter.unusedVariables false
set_option linter.unusedSimpArgs false
attribute [local go_sem ↓] Go.wp_at_zero Go.wp_at_succ
def clausesR (en : Int) : Nat → Nat → Qry → PS → Res Qry
 | 0, n, q, s => .inr (q, s)
 | f + 1, n, q, s => if n < 4 ∧ comesP clsP s = false then
  andR (takeP en opnP s) fun _ s => andR (clauseM en n q s) fun y s => andR (takeP en clsP s) fun _ s => clausesR en f y.2 y.1 s
  else .inr (q, s)
theorem clausesR_stop {en : Int} {f n : Nat} {q : Qry} {s : PS} (h : ¬ (n < 4 ∧ comesP clsP s = false)) : clausesR en f n q s = .inr (q, s) := by
 cases f with
 | zero => rfl
 | succ f => unfold clausesR; rw [if_neg h]
theorem clausesR_go {en : Int} {f n : Nat} {q : Qry} {s : PS} (h : n < 4 ∧ comesP clsP s = false) : clausesR en (f + 1) n q s = andR (takeP en opnP s) fun _ s => andR (clauseM en n q s) fun y s => andR (takeP en clsP s) fun _ s => clausesR en f y.2 y.1 s := by
 rw [clausesR, if_pos h]
theorem clauses_any (base : Nat) (K : Nat → Prop) (B Q : Nat) (en : Int) (w : World) (q : Qry) (x : PS) (hp : QPre base K B Q en w q x) :
 Calls Tryz.prog 153 #[.pointer (some ⟨B, 0, none⟩), .pointer (some ⟨Q, 0, none⟩)] w fun e w' => OutQ base K B Q en w (clausesR en 5 0 q x) e w' := by
 obtain ⟨W0, hW0⟩ := gen (w.alloc (.cells #[.string ⟨#[106, 111, 105, 110]⟩, .func (.func 170) #[.pointer (some ⟨B, 0, none⟩)] #[], .string ⟨#[119, 104, 101, 114, 101]⟩, .func (.func 171) #[.pointer (some ⟨B, 0, none⟩)] #[], .string ⟨#[103, 114, 111, 117, 112]⟩, .func (.func 172) #[.pointer (some ⟨B, 0, none⟩)] #[], .string ⟨#[103, 101, 116]⟩, .func (.func 173) #[.pointer (some ⟨B, 0, none⟩)] #[]] 212))
 have hb0 : Bl w W0 := by rw [← hW0]; exact below_alloc _ _
 have hg0 : W0.heap[w.heap.size]? = some (.cells (clC B).toArray 212 (0, 0)) := by rw [← hW0]; exact heap_alloc_new _ _
 have hl0 : w.heap.size < W0.heap.size := (gsi hg0).1
 have HP0 := hid (hp.below hb0)
 have HK0 : Hid (Kept (fun b => b < w.heap.size ∧ b ≠ B ∧ b ≠ Q) w W0) := kept_of (fun b h => h.1) hb0
 have HG0 := hid hg0
 have HNE : Hid (w.heap.size ≠ B ∧ w.heap.size ≠ Q) := ⟨by have := hp.rd.lt; omega, by have := hp.hQ; have := hp.hb; omega⟩
 obtain ⟨R1, hR1⟩ := gen (clausesR en 5 0 q x)
 have HR := hid hR1
 have HR1 : Hid (clausesR en 5 0 q x = R1) := hR1
 clear hp hb0 hg0 hl0 hR1
 go_enter Tryz.func153, Tryz.ntmps153
 go_wp2_with fail
 go_loopg [4] 5 (fun gf s4 wx => ∃ (n L o f : Nat) (qi : Qry) (xi : PS), s4 = .slice (some ⟨w.heap.size, o, none⟩) L L ∧ n + L = 4 ∧ (0 < L → o = n * 2) ∧ L < f ∧ L < gf ∧ Hid (QPre base K B Q en wx qi xi) ∧ Hid (Kept (fun b => b < w.heap.size ∧ b ≠ B ∧ b ≠ Q) w wx) ∧ Hid (wx.heap[w.heap.size]? = some (.cells (clC B).toArray 212 (0, 0))) ∧ Hid (clausesR en f n qi xi = R1))
 case atStart => exact ⟨0, 4, 0, 5, q, x, rfl, rfl, fun _ => rfl, by omega, by omega, HP0, HK0, HG0, HR1⟩
 case round =>
  clear HP0 HK0 HG0 HR1 hW0
  obtain ⟨n, L, o, f, qi, xi, rfl, hnL, hoL, hfL, hgL, HPI, HKI, HGI, HRI⟩ := hrel
  obtain ⟨g', rfl⟩ : ∃ g', gk = g' + 1 := ⟨gk - 1, by omega⟩
  obtain ⟨wa, hwa⟩ : ∃ wa, wa = wr := ⟨_, rfl⟩
  subst hwa
  by_cases hL : 0 < L
  · have y0 : (0 : Int) < (L : Int) := by omega
    have ho := hoL hL
    have HH : Hid (n + L = 4 ∧ L < f ∧ L < g' + 1 ∧ o = n * 2) := ⟨hnL, hfL, hgL, ho⟩
    obtain ⟨W1, hW1⟩ := gen (wa.alloc (.cells #[.func (.func 154) #[] #[]] 187))
    have C1 := hid (comes_one 154 clsP enters154 isClose_any K wa B en xi HPI.out.rd)
    rw [hW1] at C1
    obtain ⟨D, hD⟩ := gen (comesP clsP xi)
    have HD := hid hD
    rw [hD] at C1
    clear hoL hnL hfL hgL ho hD
    go_wp2_with fail
    refine C1.out.mono ?_
    rintro e w1 ⟨rfl, hb1⟩
    have HP1 := hid (HPI.out.below hb1)
    have HK1 : Hid (Kept (fun b => b < w.heap.size ∧ b ≠ B ∧ b ≠ Q) w w1) := KQ.call HKI.out (kept_below hb1)
    have HG1 : Hid (w1.heap[w.heap.size]? = some (.cells (clC B).toArray 212 (0, 0))) := (hb1.block _ (gsi HGI.out).1).trans HGI.out
    clear C1 hb1 HPI HKI HGI hW1
    cases D with
    | true =>
     have HF : Hid (OutQ base K B Q en w (clausesR en 5 0 q x) (.returned (.tuple #[])) w1) := ⟨HK1.out, .inr ⟨qi, xi, by rw [HR.out, ← HRI.out]; exact clausesR_stop (by rw [HD.out]; simp), rfl, HP1.out⟩⟩
     clear HP1 HK1 HG1 HRI HR HD
     go_wp2_with fail
     go_end0
     exact HF.out
    | false =>
     obtain ⟨f', hf'⟩ : ∃ f', f = f' + 1 := ⟨f - 1, by have := HH.out; omega⟩
     have HR2 : Hid ((andR (takeP en opnP xi) fun _ s => andR (clauseM en n qi s) fun y s => andR (takeP en clsP s) fun _ s => clausesR en f' y.2 y.1 s) = R1) := by
      show _ = _
      rw [← HRI.out, hf']
      exact (clausesR_go ⟨by have := HH.out; omega, HD.out⟩).symm
     have HF' : Hid (f = f' + 1) := hf'
     obtain ⟨W2, hW2⟩ := gen (w1.alloc (.cells #[.func (.func 150) #[] #[]] 187))
     have C2 := hid (take_one 150 opnP enters150 isOpen_any K w1 B en xi HP1.out.rd)
     rw [hW2] at C2
     clear hf' HRI HD
     go_wp2_with fail
     refine C2.out.mono ?_
     rintro e w2 ⟨hk2, ⟨y, a, hr, rfl⟩ | ⟨t0, x1, v, hr, rfl, ⟨rfl, _⟩, hrd⟩⟩
     · have HF : Hid (OutQ base K B Q en w (clausesR en 5 0 q x) (faultE y a) w2) := ⟨KQ.call HK1.out hk2, .inl ⟨y, a, by rw [HR.out, ← HR2.out, hr]; rfl, rfl⟩⟩
       clear C2 hk2 hr
       unfold faultE at HF ⊢
       go_wp2_with fail
       exact ⟨rfl, HF.out⟩
     · obtain ⟨tv, htv⟩ := gen t0.v
       rw [htv]
       have HP2 := hid (HP1.out.step hk2 hrd)
       have HK2 : Hid (Kept (fun b => b < w.heap.size ∧ b ≠ B ∧ b ≠ Q) w w2) := KQ.call HK1.out hk2
       have HG2 : Hid (w2.heap[w.heap.size]? = some (.cells (clC B).toArray 212 (0, 0))) := (hk2.block _ ⟨(gsi HG1.out).1, HNE.out.1⟩).trans HG1.out
       have HR3 : Hid ((andR (clauseM en n qi x1) fun y s => andR (takeP en clsP s) fun _ s => clausesR en f' y.2 y.1 s) = R1) := by show _ = _; rw [← HR2.out, hr]; rfl
       have C3 := hid (clause_any w.heap.size o n L base K B Q en w2 qi x1 HP2.out HG2.out HNE.out.1 HNE.out.2 HH.out.1 hL HH.out.2.2.2)
       clear C2 hk2 hr hrd htv HR2 HP1 HK1 HG1 hW2
       go_wp2_with fail
       refine C3.out.mono ?_
       rintro e w3 ⟨hk3, ⟨y, a, hr, rfl⟩ | ⟨q3, x3, m3, L3, o3, hr, rfl, hm3, ho3, hp3⟩⟩
       · have HF : Hid (OutQ base K B Q en w (clausesR en 5 0 q x) (faultE y a) w3) := ⟨HK2.out.trans (hk3.less fun b hb => ⟨nlt hb.1 HK2.out.size, hb.2⟩), .inl ⟨y, a, by rw [HR.out, ← HR3.out, hr]; rfl, rfl⟩⟩
         clear C3 hk3 hr
         unfold faultE at HF ⊢
         go_wp2_with fail
         exact ⟨rfl, HF.out⟩
       · have hm4 : n < m3 := by
          by_cases h : n < m3
          · exact h
          · exfalso
            have h2 := hr
            unfold clauseM at h2
            cases hh : takeP en (atomP (clausesP.drop n)) x1 with
            | inl e => rw [hh] at h2; cases h2
            | inr z =>
             obtain ⟨tz, sz⟩ := z
             rw [hh] at h2
             obtain ⟨J, hJ4, hJi, _⟩ := word_in n tz (by have := HH.out; omega) (take_len hh).2
             have h3 : (andR (clauseR en (idxP tz.t) qi sz) fun q s => .inr ((q, idxP tz.t + 1), s)) = (.inr ((q3, m3), x3) : Res (Qry × Nat)) := h2
             rw [hJi] at h3
             cases h4 : clauseR en (n + J) qi sz with
             | inl e => rw [h4] at h3; cases h3
             | inr z4 =>
              obtain ⟨q4, s4⟩ := z4
              rw [h4] at h3
              have h5 := (Prod.mk.inj (Prod.mk.inj (Sum.inr.inj h3)).1).2
              omega
         have HP3 := hid hp3
         have HK3 : Hid (Kept (fun b => b < w.heap.size ∧ b ≠ B ∧ b ≠ Q) w w3) := HK2.out.trans (hk3.less fun b hb => ⟨nlt hb.1 HK2.out.size, hb.2⟩)
         have HG3 : Hid (w3.heap[w.heap.size]? = some (.cells (clC B).toArray 212 (0, 0))) := (hk3.block _ ⟨(gsi HG2.out).1, HNE.out⟩).trans HG2.out
         have HR4 : Hid ((andR (takeP en clsP x3) fun _ s => clausesR en f' m3 q3 s) = R1) := by show _ = _; rw [← HR3.out, hr]; rfl
         obtain ⟨W4, hW4⟩ := gen (w3.alloc (.cells #[.func (.func 154) #[] #[]] 187))
         have C4 := hid (take_one 154 clsP enters154 isClose_any K w3 B en x3 hp3.rd)
         rw [hW4] at C4
         have HM : Hid (m3 + L3 = 4 ∧ (0 < L3 → o3 = m3 * 2) ∧ n < m3) := ⟨hm3, ho3, hm4⟩
         clear C3 hk3 hr hp3 hm3 ho3 hm4 HR3 HP2 HK2 HG2
         go_wp2_with fail
         refine C4.out.mono ?_
         rintro e w4 ⟨hk4, ⟨y, a, hr, rfl⟩ | ⟨t4, x4, v, hr, rfl, ⟨rfl, _⟩, hrd⟩⟩
         · have HF : Hid (OutQ base K B Q en w (clausesR en 5 0 q x) (faultE y a) w4) := ⟨KQ.call HK3.out hk4, .inl ⟨y, a, by rw [HR.out, ← HR4.out, hr]; rfl, rfl⟩⟩
           clear C4 hk4 hr
           unfold faultE at HF ⊢
           go_wp2_with fail
           exact ⟨rfl, HF.out⟩
         · obtain ⟨tv4, htv4⟩ := gen t4.v
           rw [htv4]
           have HP4 := hid (HP3.out.step hk4 hrd)
           have HK4 : Hid (Kept (fun b => b < w.heap.size ∧ b ≠ B ∧ b ≠ Q) w w4) := KQ.call HK3.out hk4
           have HG4 : Hid (w4.heap[w.heap.size]? = some (.cells (clC B).toArray 212 (0, 0))) := (hk4.block _ ⟨(gsi HG3.out).1, HNE.out.1⟩).trans HG3.out
           have HR5 : Hid (clausesR en f' m3 q3 x4 = R1) := by show _ = _; rw [← HR4.out, hr]; rfl
           clear C4 hk4 hr hrd htv4 HR4 HP3 HK3 HG3 hW4
           go_wp2_with fail
           go_roundg g'
           case measure => omega
           case rel => exact ⟨m3, L3, o3, f', q3, x4, rfl, HM.out.1, HM.out.2.1, by have := HM.out; have := HH.out; have := HF'.out; omega, by have := HM.out; have := HH.out; omega, HP4, HK4, HG4, HR5⟩
  · have hL0 : L = 0 := by omega
    have HF : Hid (OutQ base K B Q en w (clausesR en 5 0 q x) (.returned (.tuple #[])) wa) := ⟨HKI.out, .inr ⟨qi, xi, by rw [HR.out, ← HRI.out]; exact clausesR_stop (by omega), rfl, HPI.out⟩⟩
    subst hL0
    clear hoL hnL hfL hgL hL HPI HKI HGI HRI HR
    go_wp2_with fail
    go_end0
    exact HF.out
open Tryz
def nothE (en : Int) (x : PS) : Ending := match x.ts with
 | [] => .returned (.tuple #[])
 | _ :: _ => faultE 13 (placeP en x)
theorem nothing_any (K : Nat → Prop) (w : World) (B : Nat) (en : Int) (x : PS) (h : Rdr K w B en x) : Calls prog 133 #[.pointer (some ⟨B, 0, none⟩)] w fun e w' => e = nothE en x ∧ w' = w := by
 have CP := hid (place_any K w B en x h)
 obtain ⟨p, c, hg, hl, _⟩ := h
 have c0 := cell_of_row (k := 0) (v := .slice p x.ts.length c) hg rfl
 obtain ⟨ts, op⟩ := x
 cases ts with
 | nil =>
  clear hg hl CP
  have HE : Hid (nothE en ⟨[], op⟩ = .returned (.tuple #[])) := rfl
  obtain ⟨E, hE⟩ := gen (nothE en ⟨[], op⟩)
  have HE2 : Hid (E = .returned (.tuple #[])) := hE.symm.trans HE.out
  rw [hE]
  clear hE HE
  go_enter func133, ntmps133
  go_wp2_with fail
  go_end0
  exact ⟨HE2.out.symm, rfl⟩
 | cons t ts =>
  have y1 : (0 : Int) < (ts.length : Int) + 1 := by omega
  obtain ⟨pp, hpp⟩ := gen (placeP en ⟨t :: ts, op⟩)
  obtain ⟨E, hE⟩ := gen (nothE en ⟨t :: ts, op⟩)
  have HF : Hid (faultE 13 pp = E) := by show _ = _; rw [← hE, ← hpp]; rfl
  rw [hpp] at CP
  rw [hE]
  clear hg hl hpp hE
  go_enter func133, ntmps133
  go_wp2_with fail
  refine CP.out.mono ?_
  rintro e w1 ⟨rfl, rfl⟩
  clear CP
  unfold faultE at HF
  go_wp2_with fail
  exact ⟨rfl, HF.out, rfl⟩
def VQ : World → World → Value → Qry → Prop := fun w w' v q => ∃ vi vw vg, v = .agg (q.cl vi vw vg) ∧ QIn w.heap.size w' vi vw vg q
theorem QIn.base {base base' : Nat} {W : World} {vi vw vg : Value} {q : Qry} (h : QIn base W vi vw vg q) (hb : base' ≤ base) : QIn base' W vi vw vg q :=
 ⟨⟨h.1.1.base hb, h.1.2⟩, h.2.1.base hb, ⟨h.2.2.1.1.base hb, h.2.2.1.2⟩, h.2.2.2⟩
theorem sz_qry : (prog.info? 26).map (·.size) = some 7 := by kernel_rfl
theorem box_any (W : World) (t : TypeId) (z : Array Value) (cl : List Value) (hl : z.size = cl.length) : ∃ WA, W.alloc (.cells z t) = WA ∧ WA.there W.heap.size 0 cl.toArray.size ∧ ∃ WS, WA.setCells W.heap.size 0 cl.toArray.toList = WS ∧ WS.heap[W.heap.size]? = some (.cells cl.toArray t (0, 0)) ∧ Bl W WS := by
 obtain ⟨WA, hWA, hth, WS, hWS, _, _, hb, _⟩ := box_new W t z cl hl
 refine ⟨WA, hWA, hth, WS, hWS, ?_, hb⟩
 have g0 : WA.heap[W.heap.size]? = some (.cells z t (0, 0)) := by rw [← hWA]; exact heap_alloc_new W _
 rw [← hWS]
 exact box_full WA W.heap.size z t g0 cl hl
def fromP : List UInt8 := [102, 114, 111, 109]
def queryR (en : Int) (s : PS) : Res Qry := andR (takeP en opnP s) fun _ s => andR (takeP en (atomP [fromP]) s) fun _ s => andR (takeP en namP s) fun n s =>
 andR (clausesR en 5 0 ⟨[], n.t, [], [], [], [], []⟩ s) fun q s => andR (takeP en clsP s) fun _ s => .inr (q, s)
theorem qin_none (w : World) (base : Nat) (t : List UInt8) (ht : t.length ≤ 100000) : QIn base w (.slice none 0 0) (.slice none 0 0) (.slice none 0 0) ⟨[], t, [], [], [], [], []⟩ :=
 ⟨⟨OwnR.none (World.ownsRow_nil _ _ _ _), by simp⟩, steps_none _ _, ⟨OwnR.none (World.ownsRow_nil _ _ _ _), by simp⟩, ht, by simp, by simp, by simp⟩
theorem query_any (K : Nat → Prop) (B : Nat) (en : Int) (w : World) (x : PS) (rd : Rdr K w B en x) : Calls prog 132 #[.pointer (some ⟨B, 0, none⟩)] w fun e w' => Out VQ K B en w (queryR en x) e w' := by
 have HKK := hid (And.intro rd.kb rd.lt)
 obtain ⟨W0, hW0⟩ := gen (w.alloc (.cells #[.slice none 0 0, .string ⟨#[]⟩, .string ⟨#[]⟩, .string ⟨#[]⟩, .string ⟨#[]⟩, .slice none 0 0, .slice none 0 0] 26))
 have hb0 : Bl w W0 := by rw [← hW0]; exact below_alloc w _
 have hg0 : W0.heap[w.heap.size]? = some (.cells #[.slice none 0 0, .string ⟨#[]⟩, .string ⟨#[]⟩, .string ⟨#[]⟩, .string ⟨#[]⟩, .slice none 0 0, .slice none 0 0] 26 (0, 0)) := by rw [← hW0]; exact heap_alloc_new w _
 have hl0 : w.heap.size < W0.heap.size := (gsi hg0).1
 obtain ⟨W1, hW1⟩ := gen (W0.alloc (.cells #[.func (.func 150) #[] #[]] 187))
 have C1 := hid (take_one 150 opnP enters150 isOpen_any K W0 B en x (rd.below hb0))
 rw [hW1] at C1
 have HK0 : Hid (Kept (fun b => b < w.heap.size ∧ b ≠ B) w W0) := kept_below hb0
 have HG0 : Hid (W0.heap[w.heap.size]? = some (.cells #[.slice none 0 0, .string ⟨#[]⟩, .string ⟨#[]⟩, .string ⟨#[]⟩, .string ⟨#[]⟩, .slice none 0 0, .slice none 0 0] 26 (0, 0)) ∧ w.heap.size < W0.heap.size) := ⟨hg0, hl0⟩
 have hne : Hid (w.heap.size ≠ B) := Nat.ne_of_gt HKK.out.2
 have HR : Hid (queryR en x = andR (takeP en opnP x) fun _ s => andR (takeP en (atomP [fromP]) s) fun _ s => andR (takeP en namP s) fun n s => andR (clausesR en 5 0 ⟨[], n.t, [], [], [], [], []⟩ s) fun q s => andR (takeP en clsP s) fun _ s => .inr (q, s)) := rfl
 clear rd hb0 hg0 hl0
 go_enter func132, ntmps132
 go_wp2_with fail
 refine C1.out.mono ?_
 rintro e w1 ⟨hk1, ⟨y, a, hr, rfl⟩ | ⟨t1, x1, v, hr, rfl, ⟨rfl, _⟩, hrd1⟩⟩
 · have HF : Hid (Out VQ K B en w (queryR en x) (faultE y a) w1) := out_fault (HK0.out.step hk1) (by rw [HR.out, hr]; rfl)
   clear C1 hk1 hr
   unfold faultE at HF ⊢
   go_wp2_with fail
   exact ⟨rfl, HF.out⟩
 · obtain ⟨tv, htv⟩ := gen t1.v
   rw [htv]
   have HK1 := hid (HK0.out.step hk1)
   have HG1 : Hid (w1.heap[w.heap.size]? = some (.cells #[.slice none 0 0, .string ⟨#[]⟩, .string ⟨#[]⟩, .string ⟨#[]⟩, .string ⟨#[]⟩, .slice none 0 0, .slice none 0 0] 26 (0, 0)) ∧ w.heap.size < w1.heap.size) := ⟨(hk1.block _ ⟨HG0.out.2, hne.out⟩).trans HG0.out.1, nlt HG0.out.2 hk1.size⟩
   have HR2 : Hid (queryR en x = andR (takeP en (atomP [fromP]) x1) fun _ s => andR (takeP en namP s) fun n s => andR (clausesR en 5 0 ⟨[], n.t, [], [], [], [], []⟩ s) fun q s => andR (takeP en clsP s) fun _ s => .inr (q, s)) := by show _ = _; rw [HR.out, hr]; rfl
   obtain ⟨W2, hW2⟩ := gen (w1.alloc (.cells #[.string ⟨#[102, 114, 111, 109]⟩] 9))
   have hb2 : Bl w1 W2 := by rw [← hW2]; exact below_alloc _ _
   have hg2 : W2.heap[w1.heap.size]? = some (.cells #[.string ⟨#[102, 114, 111, 109]⟩] 9 (0, 0)) := by rw [← hW2]; exact heap_alloc_new _ _
   have hl2 : w1.heap.size < W2.heap.size := (gsi hg2).1
   obtain ⟨W3, hW3⟩ := gen (W2.alloc (.cells #[.slice (some ⟨w1.heap.size, 0, none⟩) 1 1] 24))
   have hb3 : Bl W2 W3 := by rw [← hW3]; exact below_alloc _ _
   have hg3 : W3.heap[W2.heap.size]? = some (.cells #[.slice (some ⟨w1.heap.size, 0, none⟩) 1 1] 24 (0, 0)) := by rw [← hW3]; exact heap_alloc_new _ _
   have hl3 : W2.heap.size < W3.heap.size := (gsi hg3).1
   obtain ⟨W4, hW4⟩ := gen (W3.alloc (.cells #[.func (.func 168) #[] #[.pointer (some ⟨W2.heap.size, 0, none⟩)]] 187))
   have hb4 : Bl W3 W4 := by rw [← hW4]; exact below_alloc _ _
   have hbw3 : Bl w1 W3 := hb2.trans (hb3.mono hb2.size)
   have hbw4 : Bl w1 W4 := hbw3.trans (hb4.mono hbw3.size)
   have hli : ListIs rStr 1 16 (fun b => b = w1.heap.size) W3 (.slice (some ⟨w1.heap.size, 0, none⟩) [fromP].length 1) [fromP] := by
    refine ⟨_, _, rfl, ⟨by simp, by simp⟩, fun _ => ⟨w1.heap.size, 0, rfl, rfl, fun j hj => ?_⟩⟩
    have e : j = 0 := by simpa using hj
    subst e
    refine ⟨[.string ⟨#[102, 114, 111, 109]⟩], rfl, fun i u hu => ?_, rfl, by simp [fromP]⟩
    have hg : W3.heap[w1.heap.size]? = some (.cells #[.string ⟨#[102, 114, 111, 109]⟩] 9 (0, 0)) := (hb3.block _ hl2).trans hg2
    simp only [Nat.zero_mul, Nat.zero_add]
    exact cell_of_row hg (by simpa using hu)
   have hwf : WantF W3 (.func (.func 168) #[] #[.pointer (some ⟨W2.heap.size, 0, none⟩)]) (atomP [fromP]) :=
    want_atom _ _ 1 W2.heap.size [fromP] W3 (cell_of_row hg3 rfl) hl3 (fun b hb => by have := hb3.size; omega) hli
   have C2' := take_new [(.func (.func 168) #[] #[.pointer (some ⟨W2.heap.size, 0, none⟩)], atomP [fromP])] (.slice (some ⟨W3.heap.size, 0, none⟩) 1 1) W4 K w1 B en x1 hrd1 hbw4 (by rw [← hW4]; exact wants_one W3 _ _ hwf)
   rw [anyP_one] at C2'
   have C2 := hid C2'
   have CA : Hid (Calls prog 151 #[.slice (some ⟨w1.heap.size, 0, none⟩) 1 1] W2 fun e w' => e = .returned (.func (.func 168) #[] #[.pointer (some ⟨W2.heap.size, 0, none⟩)]) ∧ w' = W3) := by have := atom_any (some ⟨w1.heap.size, 0, none⟩) 1 1 W2; rw [hW3] at this; exact this
   clear C1 hk1 hr hrd1 htv HR HK0 HG0 hb2 hg2 hl2 hb3 hg3 hl3 hb4 hbw3 hbw4 hli hwf C2' hW0 hW1 hW3
   have HR := HR2
   clear HR2
   go_wp2_with fail
   refine CA.out.mono ?_
   rintro e w2 ⟨rfl, rfl⟩
   clear CA
   go_wp2_with fail
   refine C2.out.mono ?_
   rintro e w3 ⟨hk3, ⟨y, a, hr, rfl⟩ | ⟨t2, x3, v, hr, rfl, ⟨rfl, _⟩, hrd3⟩⟩
   · have HF : Hid (Out VQ K B en w (queryR en x) (faultE y a) w3) := out_fault (HK1.out.step hk3) (by rw [HR.out, hr]; rfl)
     clear C2 hk3 hr
     unfold faultE at HF ⊢
     go_wp2_with fail
     exact ⟨rfl, HF.out⟩
   · obtain ⟨tv2, htv2⟩ := gen t2.v
     rw [htv2]
     have HK3 := hid (HK1.out.step hk3)
     have HG3 : Hid (w3.heap[w.heap.size]? = some (.cells #[.slice none 0 0, .string ⟨#[]⟩, .string ⟨#[]⟩, .string ⟨#[]⟩, .string ⟨#[]⟩, .slice none 0 0, .slice none 0 0] 26 (0, 0)) ∧ w.heap.size < w3.heap.size) := ⟨(hk3.block _ ⟨HG1.out.2, hne.out⟩).trans HG1.out.1, nlt HG1.out.2 hk3.size⟩
     have HR2 : Hid (queryR en x = andR (takeP en namP x3) fun n s => andR (clausesR en 5 0 ⟨[], n.t, [], [], [], [], []⟩ s) fun q s => andR (takeP en clsP s) fun _ s => .inr (q, s)) := by show _ = _; rw [HR.out, hr]; rfl
     obtain ⟨W5, hW5⟩ := gen (w3.alloc (.cells #[.func (.func 152) #[] #[]] 187))
     have C3 := hid (take_one 152 namP enters152 isNameT_any K w3 B en x3 hrd3)
     rw [hW5] at C3
     clear C2 hk3 hr hrd3 htv2 HR HK1 HG1 hW2 hW4
     have HR := HR2
     clear HR2
     go_wp2_with fail
     refine C3.out.mono ?_
     rintro e w4 ⟨hk4, ⟨y, a, hr, rfl⟩ | ⟨t, x4, v, hr, rfl, ⟨rfl, hok⟩, hrd4⟩⟩
     · have HF : Hid (Out VQ K B en w (queryR en x) (faultE y a) w4) := out_fault (HK3.out.step hk4) (by rw [HR.out, hr]; rfl)
       clear C3 hk4 hr
       unfold faultE at HF ⊢
       go_wp2_with fail
       exact ⟨rfl, HF.out⟩
     · obtain ⟨s, hs⟩ := bya t.t
       have hv : t.v = .agg #[.int .u8 t.k, .string s, .int .i64 t.n, .int .i64 t.a] := by rw [← hs]; rfl
       have hfd := text_of s t.k t.n t.a
       have HK4 := hid (HK3.out.step hk4)
       have HG4 : Hid (w4.heap[w.heap.size]? = some (.cells #[.slice none 0 0, .string ⟨#[]⟩, .string ⟨#[]⟩, .string ⟨#[]⟩, .string ⟨#[]⟩, .slice none 0 0, .slice none 0 0] 26 (0, 0)) ∧ w.heap.size < w4.heap.size) := ⟨(hk4.block _ ⟨HG3.out.2, hne.out⟩).trans HG3.out.1, nlt HG3.out.2 hk4.size⟩
       have HR2 : Hid (queryR en x = andR (clausesR en 5 0 ⟨[], t.t, [], [], [], [], []⟩ x4) fun q s => andR (takeP en clsP s) fun _ s => .inr (q, s)) := by show _ = _; rw [HR.out, hr]; rfl
       obtain ⟨WA, hWA, hth, V1, hV1, hgQ, hbV⟩ := box_any w4 26 #[.slice none 0 0, .string ⟨#[]⟩, .string ⟨#[]⟩, .string ⟨#[]⟩, .string ⟨#[]⟩, .slice none 0 0, .slice none 0 0] [.slice none 0 0, .string s, .string ⟨#[]⟩, .string ⟨#[]⟩, .string ⟨#[]⟩, .slice none 0 0, .slice none 0 0] rfl
       have HTH := hid hth
       have HV1 : Hid (WA.setCells w4.heap.size 0 (#[.slice none 0 0, .string s, .string ⟨#[]⟩, .string ⟨#[]⟩, .string ⟨#[]⟩, .slice none 0 0, .slice none 0 0] : Array Value).toList = V1) := hV1
       have hlQ : w4.heap.size < V1.heap.size := (gsi hgQ).1
       have hp : QPre (w4.heap.size + 1) K B w4.heap.size en V1 ⟨[], t.t, [], [], [], [], []⟩ x4 :=
        ⟨hrd4.below hbV, ⟨_, _, _, by rw [hgQ, ← hs]; rfl, qin_none V1 _ _ hok.2.2.2⟩, hlQ, hrd4.lt, Nat.lt_succ_self _, hrd4.kb⟩
       have C4 := hid (clauses_any _ K B w4.heap.size en V1 _ x4 hp)
       have HK5 : Hid (Kept (fun b => b < w.heap.size ∧ b ≠ B) w V1) := HK4.out.step (kept_below hbV)
       have HG5 : Hid (V1.heap[w.heap.size]? = some (.cells #[.slice none 0 0, .string ⟨#[]⟩, .string ⟨#[]⟩, .string ⟨#[]⟩, .string ⟨#[]⟩, .slice none 0 0, .slice none 0 0] 26 (0, 0)) ∧ w.heap.size < V1.heap.size ∧ w.heap.size < w4.heap.size) := ⟨(hbV.block _ HG4.out.2).trans HG4.out.1, nlt HG4.out.2 hbV.size, HG4.out.2⟩
       rw [hv]
       clear C3 hk4 hr hrd4 hok hs hv HR HK3 HG3 HK4 HG4 hth hV1 hgQ hbV hlQ hp hW5
       have HR := HR2
       clear HR2
       go_wp2_with (first | (refine wpList_store_mid rfl 26 _ _ rfl w4.heap.size 0 #[.slice none 0 0, .string s, .string ⟨#[]⟩, .string ⟨#[]⟩, .string ⟨#[]⟩, .slice none 0 0, .slice none 0 0] rfl rfl HTH.out sz_qry (by simp [Value.oneCell']) ?_; rw [show WA.setCells w4.heap.size 0 (#[.slice none 0 0, .string s, .string ⟨#[]⟩, .string ⟨#[]⟩, .string ⟨#[]⟩, .slice none 0 0, .slice none 0 0] : Array Value).toList = V1 from HV1.out]))
       refine C4.out.mono ?_
       rintro e w5 ⟨hk5, ⟨y, a, hr, rfl⟩ | ⟨q5, x5, hr, rfl, hp5⟩⟩
       · have HF : Hid (Out VQ K B en w (queryR en x) (faultE y a) w5) := out_fault (HK5.out.trans (hk5.less fun b hb => ⟨by have := HG5.out.2; omega, hb.2, by have := HG5.out.2; omega⟩)) (by rw [HR.out, hr]; rfl)
         clear C4 hk5 hr
         unfold faultE at HF ⊢
         go_wp2_with fail
         exact ⟨rfl, HF.out⟩
       · have HK6 : Hid (Kept (fun b => b < w.heap.size ∧ b ≠ B) w w5) := HK5.out.trans (hk5.less fun b hb => ⟨by have := HG5.out.2; omega, hb.2, by have := HG5.out.2; omega⟩)
         have HG6 : Hid (w5.heap[w.heap.size]? = some (.cells #[.slice none 0 0, .string ⟨#[]⟩, .string ⟨#[]⟩, .string ⟨#[]⟩, .string ⟨#[]⟩, .slice none 0 0, .slice none 0 0] 26 (0, 0)) ∧ w.heap.size < w5.heap.size ∧ w.heap.size < w4.heap.size) := ⟨(hk5.block _ ⟨HG5.out.2.1, hne.out, by have := HG5.out.2.2; omega⟩).trans HG5.out.1, nlt HG5.out.2.1 hk5.size, HG5.out.2.2⟩
         have HR2 : Hid (queryR en x = andR (takeP en clsP x5) fun _ s => .inr (q5, s)) := by show _ = _; rw [HR.out, hr]; rfl
         obtain ⟨W6, hW6⟩ := gen (w5.alloc (.cells #[.func (.func 154) #[] #[]] 187))
         have C5 := hid (take_one 154 clsP enters154 isClose_any K w5 B en x5 hp5.rd)
         rw [hW6] at C5
         have HP5 := hid hp5
         clear C4 hk5 hr hp5 HR HK5 HG5 HTH HV1 hWA hfd
         have HR := HR2
         clear HR2
         go_wp2_with fail
         refine C5.out.mono ?_
         rintro e w6 ⟨hk6, ⟨y, a, hr, rfl⟩ | ⟨t6, x6, v, hr, rfl, ⟨rfl, _⟩, hrd6⟩⟩
         · have HF : Hid (Out VQ K B en w (queryR en x) (faultE y a) w6) := out_fault (HK6.out.step hk6) (by rw [HR.out, hr]; rfl)
           clear C5 hk6 hr
           unfold faultE at HF ⊢
           go_wp2_with fail
           exact ⟨rfl, HF.out⟩
         · obtain ⟨tv6, htv6⟩ := gen t6.v
           rw [htv6]
           have hp6 := HP5.out.step hk6 hrd6
           obtain ⟨vi, vw, vg, hgQ, hin⟩ := hp6.qb
           have hg6 : w6.heap[w.heap.size]? = some (.cells #[.slice none 0 0, .string ⟨#[]⟩, .string ⟨#[]⟩, .string ⟨#[]⟩, .string ⟨#[]⟩, .slice none 0 0, .slice none 0 0] 26 (0, 0)) := (hk6.block _ ⟨HG6.out.2.1, hne.out⟩).trans HG6.out.1
           obtain ⟨pi, ci, rfl⟩ := hin.1.1.slice
           obtain ⟨pw, cw, rfl⟩ := hin.2.1.slice
           obtain ⟨pg, cg, rfl⟩ := hin.2.2.1.1.slice
           obtain ⟨s0, hs0⟩ := bya q5.t
           obtain ⟨s1, hs1⟩ := bya q5.j
           obtain ⟨s2, hs2⟩ := bya q5.a
           obtain ⟨s3, hs3⟩ := bya q5.b
           obtain ⟨ni, hni⟩ := gen q5.i.length
           obtain ⟨nw, hnw⟩ := gen q5.w.length
           obtain ⟨ng, hng⟩ := gen q5.g.length
           have hcl : q5.cl (.slice pi q5.i.length ci) (.slice pw q5.w.length cw) (.slice pg q5.g.length cg) = #[.slice pi ni ci, .string s0, .string s1, .string s2, .string s3, .slice pw nw cw, .slice pg ng cg] := by unfold Qry.cl; rw [hs0, hs1, hs2, hs3, hni, hnw, hng]
           obtain ⟨hth, X, hX, hld, hsX, hkX⟩ := put_row w6 w.heap.size _ 26 hg6 [.slice pi ni ci, .string s0, .string s1, .string s2, .string s3, .slice pw nw cw, .slice pg ng cg] rfl underlying26 rfl sz_qry
           have HRQ : Hid (w6.rangeAt w4.heap.size 0 [.slice pi ni ci, .string s0, .string s1, .string s2, .string s3, .slice pw nw cw, .slice pg ng cg]) := rgz (by rw [hgQ, hcl])
           have HTH := hid hth
           have HX : Hid (w6.setCells w.heap.size 0 (#[.slice pi ni ci, .string s0, .string s1, .string s2, .string s3, .slice pw nw cw, .slice pg ng cg] : Array Value).toList = X) := hX
           have HLD : Hid ((loadVar 26 ⟨w.heap.size, 0, none⟩).run prog X = .ok (.agg #[.slice pi ni ci, .string s0, .string s1, .string s2, .string s3, .slice pw nw cw, .slice pg ng cg]) X) := hld
           have h10 := hrd6.b10
           have HF : Hid (Out VQ K B en w (queryR en x) (.returned (.agg #[.slice pi ni ci, .string s0, .string s1, .string s2, .string s3, .slice pw nw cw, .slice pg ng cg])) X) :=
            ⟨(HK6.out.step hk6).trans (hkX.less fun b hb => Nat.ne_of_lt hb.1), .inr ⟨q5, x6, _, by rw [HR.out, hr]; rfl, rfl, ⟨_, _, _, by rw [hcl], (hin.held (hkX.less fun b hb => by have := HG6.out.2.2; omega)).base (by have := HG6.out.2.2; omega)⟩, hrd6.kept (hkX.less fun b hb => by
             have h2 := HKK.out
             rcases hb with hb | hb | hb
             · omega
             · have := h2.1 b hb; omega
             · omega)⟩⟩
           clear C5 hk6 hr hrd6 htv6 hp6 hgQ hin hg6 hs0 hs1 hs2 hs3 hni hnw hng hcl hth hX hld hsX hkX h10 HP5 HK6 HG6 HR hW6
           go_wp2_with (first | (refine wpList_load_mid rfl 26 _ rfl w4.heap.size 0 rfl _ _ HRQ.out underlying26 rfl sz_qry ?_) | (refine wpList_store_mid rfl 26 _ _ rfl w.heap.size 0 #[.slice pi ni ci, .string s0, .string s1, .string s2, .string s3, .slice pw nw cw, .slice pg ng cg] rfl rfl HTH.out sz_qry (by simp [Value.oneCell']) ?_; rw [HX.out]))
           refine bodyPost_ret (v := .agg #[.slice pi ni ci, .string s0, .string s1, .string s2, .string s3, .slice pw nw cw, .slice pg ng cg]) (by simp only [results, results132]; simp [asAddr, Act.put, HLD.out]) rfl ?_
           exact HF.out
end Go.Proofs.YtfifphfihdhlaaaGreatDoor
