/- The law LeaseFresh returns true, of any leases, node, opening and time. -/
import Derived.Test.YtdcgppdljcokpaaLn
namespace Go.Proofs.Ytdcgppdljcokpaa
open Go.Shelf Go.RowKit Go.Lib Go.Sort
set_option linter.unusedVariables false
set_option linter.unusedSimpArgs false
attribute [local go_sem ↓] Go.wp_at_zero Go.wp_at_succ
set_option maxRecDepth 100000 in
set_option maxHeartbeats 8000000 in
theorem fresh_core (u v : Value) (bs ss : List Int) (node boot now : Int) (w : World) (h : NumsL w u bs) (h' : NumsL w v ss) (hbo : 0 ≤ boot ∧ boot < 18446744073709551616) (hno : 0 ≤ now ∧ now < 18446744073709551616) :
    Calls Try.prog 5 #[.agg #[u, v], .int .i64 node, .int .u64 boot, .int .u64 now] w fun e w' => e = .returned (.bool true) ∧ Below w.heap.size w w' := by
  obtain ⟨p, c, rfl, _⟩ := id h
  obtain ⟨q, d, rfl, _⟩ := id h'
  obtain ⟨W0, hW0⟩ : ∃ W0, w.alloc (.cells #[.slice p bs.length c, .slice q ss.length d] 24) = W0 := ⟨_, rfl⟩
  obtain ⟨hbox, hb0⟩ := BoxL.new h h' hW0
  have HX : Hid (BoxL w.heap.size p c q d bs ss W0) := hbox
  have HB0 : Hid (Below w.heap.size w W0) := hb0
  have CL := hid (lives_any W0)
  have CB := hid (fun (u v : Value) (bs ss : List Int) (b2 : Int) (hb2 : 0 ≤ b2 ∧ b2 < 18446744073709551616) (W : World) (h : NumsL W u bs) (h' : NumsL W v ss) => Beat_any u v bs ss node b2 now W h h' hb2 hno)
  have CS := hid (fun (u1 u2 v1 v2 : Value) (xs xt : List Int) (W : World) (h1 : NumsL W u1 xs) (h2 : NumsL W u2 xt) (h3 : NumsL W v1 xs) (h4 : NumsL W v2 xt) => Same_any u1 u2 v1 v2 xs xt xs xt W h1 h2 h3 h4)
  have HO : Hid (0 ≤ boot ∧ boot < 18446744073709551616) := hbo
  clear h h' hbox hb0 hno
  by_cases hE : btE bs ss node boot now = 0
  · obtain ⟨k, rfl, g⟩ := good_of hE
    have HGd : Hid (Beaten bs ss k boot now) := g
    have hk := g.lt
    have hk' := g.lt'
    have hone := g.one
    have z0 : (0 : Int) ≤ (k : Int) := by omega
    have z00 : ¬ (k : Int) < 0 := by omega
    have z1 : (k : Int) < (bs.length : Int) := by omega
    have z2 : ¬ (bs.length : Int) ≤ (k : Int) := by omega
    obtain ⟨x, hx⟩ : ∃ x, bs[k] = x := ⟨_, rfl⟩
    have eB := g.b
    have eS := g.s
    have eF := g.f
    rw [hx] at eF
    obtain ⟨fr, hfr⟩ : ∃ fr, (!(x == boot)) = fr := ⟨_, rfl⟩
    have t5 : (x != boot) = fr := hfr
    have tf : (fr != fr) = false := by simp
    rw [hfr] at eF
    clear hfr
    have CB1 := CB.out (.slice p bs.length c) (.slice q ss.length d) bs ss boot hbo
    rw [eB, eS, eF, hE] at CB1
    obtain ⟨bs', hbs'⟩ : ∃ bs', bs.set k boot = bs' := ⟨_, rfl⟩
    obtain ⟨ss', hss'⟩ : ∃ ss', ss.set k now = ss' := ⟨_, rfl⟩
    obtain ⟨a1, a2, a3, a4⟩ := good_again g
    rw [hbs', hss'] at CB1 a1 a2 a3 a4
    have CB2 := fun (u v : Value) => CB.out u v bs' ss' boot hbo
    rw [a1, a2, a3, a4] at CB2
    have HCB1 := hid CB1
    have HCB2 := hid CB2
    have HL1 : Hid (bs'.length = bs.length) := by show _ = _; rw [← hbs']; simp
    have HBK : Hid (∀ W b o, p = some ⟨b, o, none⟩ → NumsL W (.slice p bs.length c) bs → W.cell? ⟨b, o + k, none⟩ = some (.int .u64 x)) := fun W b o hp hn => by
      obtain ⟨p', c', ev, _, _, _, _, _, hq⟩ := hn
      simp only [Value.slice.injEq] at ev
      obtain ⟨rfl, _, rfl⟩ := ev
      obtain ⟨b2, o2, e, _, hc⟩ := hq (by omega)
      rw [hp] at e
      cases e
      rw [hc k hk, hx]
    obtain ⟨b0, o0, rfl⟩ : ∃ b0 o0, p = some ⟨b0, o0, none⟩ := by
      obtain ⟨p', c', ev, _, _, _, _, _, hq⟩ := HX.out.n1
      simp only [Value.slice.injEq] at ev
      obtain ⟨rfl, _, rfl⟩ := ev
      obtain ⟨b2, o2, e, _, _⟩ := hq (by omega)
      exact ⟨b2, o2, e⟩
    have HS1 : Hid (bs.set k boot = bs' ∧ ss.set k now = ss') := ⟨hbs', hss'⟩
    clear CB1 CB2 a1 a2 a3 a4 eB eS eF hE g hx hk hk' hone hbo hbs' hss'
    go_enter Try.func5, Try.ntmps5
    go_wp2_with fail
    refine CL.out.mono ?_
    rintro e w0 ⟨rfl, hb0⟩
    have HX0 : Hid (BoxL w.heap.size (some ⟨b0, o0, none⟩) c q d bs ss w0) := HX.out.below hb0
    have HBw : Hid (Below w.heap.size w w0) := HB0.out.trans (hb0.mono HB0.out.size)
    have x0 := HX0.out.c0
    have x1 := HX0.out.c1
    have K1 := HCB1.out w0 HX0.out.n1 HX0.out.n2
    clear CL HCB1 hb0 HX
    go_wp2_with fail
    refine K1.mono ?_
    rintro e w1 ⟨p1, c1, q1, d1, rfl, hn1, hn2, hb1⟩
    obtain ⟨V1, hV1⟩ : ∃ V, w1.alloc (.cells #[.slice p1 bs'.length c1, .slice q1 ss'.length d1] 24) = V := ⟨_, rfl⟩
    obtain ⟨hA, hbV⟩ := BoxL.new hn1 hn2 hV1
    have hbb : Below w0.heap.size w0 V1 := hb1.trans (hbV.mono hb1.size)
    have HXA : Hid (BoxL w1.heap.size p1 c1 q1 d1 bs' ss' V1) := hA
    have HX1 : Hid (BoxL w.heap.size (some ⟨b0, o0, none⟩) c q d bs ss V1) := HX0.out.below hbb
    have HB1 : Hid (Below w.heap.size w V1) := HBw.out.trans (hbb.mono HBw.out.size)
    have y0 := HXA.out.c0
    have y1 := HXA.out.c1
    have x0 := HX1.out.c0
    have K2 := HCB2.out _ _ V1 HXA.out.n1 HXA.out.n2
    clear K1 HCB2 hn1 hn2 hb1 hA hbV hbb HX0 HBw
    go_wp2_with fail
    refine K2.mono ?_
    rintro e w2 ⟨p2, c2, q2, d2, rfl, hn1, hn2, hb2⟩
    obtain ⟨V2, hV2⟩ : ∃ V, w2.alloc (.cells #[.slice p2 bs'.length c2, .slice q2 ss'.length d2] 24) = V := ⟨_, rfl⟩
    obtain ⟨hA, hbV⟩ := BoxL.new hn1 hn2 hV2
    have hbb : Below V1.heap.size V1 V2 := hb2.trans (hbV.mono hb2.size)
    have HXB : Hid (BoxL w2.heap.size p2 c2 q2 d2 bs' ss' V2) := hA
    have HXA2 : Hid (BoxL w1.heap.size p1 c1 q1 d1 bs' ss' V2) := HXA.out.below hbb
    have HX2 : Hid (BoxL w.heap.size (some ⟨b0, o0, none⟩) c q d bs ss V2) := HX1.out.below hbb
    have HB2 : Hid (Below w.heap.size w V2) := HB1.out.trans (hbb.mono HB1.out.size)
    have y0 := HXA2.out.c0
    have y1 := HXA2.out.c1
    have t0 := HXB.out.c0
    have t1 := HXB.out.c1
    have K3 := CS.out _ _ _ _ bs' ss' V2 HXA2.out.n1 HXA2.out.n2 HXB.out.n1 HXB.out.n2
    rw [sameN_self, sameN_self] at K3
    clear K2 hn1 hn2 hb2 hA hbV hbb HX1 HB1 HXA CS
    go_wp2_with fail
    refine K3.mono ?_
    rintro e w3 ⟨rfl, hb3⟩
    have HXA3 : Hid (BoxL w1.heap.size p1 c1 q1 d1 bs' ss' w3) := HXA2.out.below hb3
    have HX3 : Hid (BoxL w.heap.size (some ⟨b0, o0, none⟩) c q d bs ss w3) := HX2.out.below hb3
    have HB3 : Hid (Below w.heap.size w w3) := HB2.out.trans (hb3.mono HB2.out.size)
    have x0 := HX3.out.c0
    have xc := HBK.out w3 b0 o0 rfl HX3.out.n1
    have y0 := HXA3.out.c0
    have y1 := HXA3.out.c1
    clear K3 hb3 t0 t1 HX2 HB2 HXA2 HBK
    by_cases h2 : boot < 2
    · go_wp2_with fail
      go_ret
      exact ⟨rfl, HB3.out⟩
    · have hge : 2 ≤ boot := by omega
      have hw : IntKind.u64.wrap (boot - 1) = boot - 1 := by rw [IntKind.wrap_u64]; have := HO.out; omega
      have e17 : btE bs' ss' (k : Int) (boot - 1) now = 17 := by rw [← HS1.out.1, ← HS1.out.2]; exact good_elder HGd.out hge
      have K4 := CB.out _ _ bs' ss' (boot - 1) (by have := HO.out; omega) w3 HXA3.out.n1 HXA3.out.n2
      rw [e17] at K4
      clear CB e17
      go_wp2_with fail
      refine K4.mono ?_
      rintro e w4 ⟨p4, c4, q4, d4, rfl, hn1, hn2, hb4⟩
      have HF : Hid (∀ o, Below w.heap.size w (w4.alloc o)) := fun o => by
        have h1 := HB3.out.trans (hb4.mono HB3.out.size)
        exact h1.alloc h1.size _
      clear K4 hn1 hn2 hb4
      go_wp2_with fail
      go_ret
      exact ⟨rfl, HF.out _⟩
  · have eF := btF_false hE
    have CB1 := CB.out (.slice p bs.length c) (.slice q ss.length d) bs ss boot hbo
    rw [eF] at CB1
    obtain ⟨E, hE'⟩ : ∃ E, btE bs ss node boot now = E := ⟨_, rfl⟩
    rw [hE'] at CB1 hE
    have hne : (E != 0) = true := by simpa using hE
    have HCB1 := hid CB1
    clear CB1 CB CS hE hE' hbo eF
    go_enter Try.func5, Try.ntmps5
    go_wp2_with fail
    refine CL.out.mono ?_
    rintro e w0 ⟨rfl, hb0⟩
    have HX0 : Hid (BoxL w.heap.size p c q d bs ss w0) := HX.out.below hb0
    have HBw : Hid (Below w.heap.size w w0) := HB0.out.trans (hb0.mono HB0.out.size)
    have x0 := HX0.out.c0
    have x1 := HX0.out.c1
    have K1 := HCB1.out w0 HX0.out.n1 HX0.out.n2
    clear CL HCB1 hb0 HX
    go_wp2_with fail
    refine K1.mono ?_
    rintro e w1 ⟨p1, c1, q1, d1, rfl, hn1, hn2, hb1⟩
    have HF : Hid (∀ o, Below w.heap.size w (w1.alloc o)) := fun o => by
      have h1 := HBw.out.trans (hb1.mono HBw.out.size)
      exact h1.alloc h1.size _
    clear K1 hn1 hn2 hb1
    go_wp2_with fail
    go_ret
    exact ⟨rfl, HF.out _⟩
end Go.Proofs.Ytdcgppdljcokpaa
