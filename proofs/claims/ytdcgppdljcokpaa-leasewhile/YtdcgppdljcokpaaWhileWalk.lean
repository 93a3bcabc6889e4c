/- The law LeaseWhile returns true, of any leases, node, opening and times. -/
import Derived.Test.YtdcgppdljcokpaaLn
namespace Go.Proofs.Ytdcgppdljcokpaa
open Go.Shelf Go.RowKit Go.Lib Go.Sort
set_option linter.unusedVariables false
set_option linter.unusedSimpArgs false
attribute [local go_sem ↓] Go.wp_at_zero Go.wp_at_succ
theorem alv_len {bs ss : List Int} {now : Int} (h : okL bs ss) : (alvL bs ss now).length = bs.length := by
  unfold alvL; rw [if_pos (chL_ok h)]; simp
theorem alv_at {bs ss : List Int} {now : Int} (h : okL bs ss) (i : Nat) (hi : i < (alvL bs ss now).length) : (alvL bs ss now)[i] = aliveB bs ss now i := by
  unfold alvL; simp [if_pos (chL_ok h)]
theorem while_other {bs ss : List Int} {k i : Nat} {boot now later : Int} (g : Beaten bs ss k boot now) (hi : i ≠ k) : aliveB (bs.set k boot) (ss.set k now) later i = aliveB bs ss later i := by
  have hki : ¬ k = i := fun e => hi e.symm
  have e1 : (bs.set k boot).getD i 0 = bs.getD i 0 := by simp [List.getD, List.getElem?_set, hki]
  have e2 : (ss.set k now).getD i 0 = ss.getD i 0 := by simp [List.getD, List.getElem?_set, hki]
  unfold aliveB
  rw [e1, e2]
theorem while_zero {bs ss : List Int} {k : Nat} {boot now later : Int} : aliveB (bs.set k boot) (ss.set k now) later 0 = true := by simp [aliveB]
theorem while_self {bs ss : List Int} {k : Nat} {boot now later : Int} (g : Beaten bs ss k boot now) : aliveB (bs.set k boot) (ss.set k now) later k = (decide (now ≤ later) && decide (later - now < 8)) := by
  have h1 := g.one
  have h2 := g.lt
  have h3 := g.lt'
  have h4 := g.nz
  have h5 : (k == 0) = false := by simp; omega
  have h6 : (boot == 0) = false := by simp [h4]
  unfold aliveB
  rw [h5]
  simp [List.getD, h2, h3, h6]
theorem ref_ne {bs ss : List Int} {node boot now : Int} : refE bs ss node boot now ≠ 6 := by
  unfold refE
  split
  · omega
  · split <;> omega
set_option maxRecDepth 100000 in
set_option maxHeartbeats 8000000 in
theorem while_core (u v : Value) (bs ss : List Int) (node boot now later : Int) (w : World) (h : NumsL w u bs) (h' : NumsL w v ss) (hbo : 0 ≤ boot ∧ boot < 18446744073709551616) (hno : 0 ≤ now ∧ now < 18446744073709551616) (hla : 0 ≤ later ∧ later < 18446744073709551616) :
    Calls Try.prog 4 #[.agg #[u, v], .int .i64 node, .int .u64 boot, .int .u64 now, .int .u64 later] w fun e w' => e = .returned (.bool true) ∧ Below w.heap.size w w' := by
  obtain ⟨p, c, rfl, _⟩ := id h
  obtain ⟨q, d, rfl, _⟩ := id h'
  obtain ⟨W0, hW0⟩ : ∃ W0, w.alloc (.cells #[.slice p bs.length c, .slice q ss.length d] 24) = W0 := ⟨_, rfl⟩
  obtain ⟨hbox, hb0⟩ := BoxL.new h h' hW0
  have HX : Hid (BoxL w.heap.size p c q d bs ss W0) := hbox
  have HB0 : Hid (Below w.heap.size w W0) := hb0
  have CL := hid (lives_any W0)
  have CB := hid (fun (W : World) (h : NumsL W (.slice p bs.length c) bs) (h' : NumsL W (.slice q ss.length d) ss) => Beat_any _ _ bs ss node boot now W h h' hbo hno)
  have CA := hid (fun (u v : Value) (bs ss : List Int) (W : World) (h : NumsL W u bs) (h' : NumsL W v ss) => Alive_any u v bs ss later W h h' hla)
  clear h h' hbox hb0 hbo
  by_cases hE : btE bs ss node boot now = 0
  · obtain ⟨k, rfl, g⟩ := good_of hE
    have HGd : Hid (Beaten bs ss k boot now) := g
    have hk := g.lt
    have hone := g.one
    have z0 : (0 : Int) ≤ (k : Int) := by omega
    have z00 : ¬ (k : Int) < 0 := by omega
    have z0d : decide ((k : Int) < 0) = false := decide_eq_false z00
    have z1 : (k : Int) < (bs.length : Int) := by omega
    have z2 : ¬ (bs.length : Int) ≤ (k : Int) := by omega
    obtain ⟨x, hx⟩ : ∃ x, bs[k] = x := ⟨_, rfl⟩
    have eB := g.b
    have eS := g.s
    have eR := g.rise
    rw [hx] at eR
    have tr : ¬ boot < x := by omega
    have trd : decide (boot < x) = false := decide_eq_false tr
    have z2d : decide ((bs.length : Int) ≤ (k : Int)) = false := decide_eq_false z2
    rw [eB, eS, hE] at CB
    have hok' := good_ok g
    obtain ⟨bs', hbs'⟩ : ∃ bs', bs.set k boot = bs' := ⟨_, rfl⟩
    obtain ⟨ss', hss'⟩ : ∃ ss', ss.set k now = ss' := ⟨_, rfl⟩
    have hl' : bs'.length = bs.length := by rw [← hbs']; simp
    have hat' : ∀ (h : k < bs'.length), bs'[k] = boot := fun h => by simp [← hbs']
    rw [hbs', hss'] at CB hok'
    obtain ⟨fr, hfr⟩ : ∃ fr, btF bs ss (k : Int) boot now = fr := ⟨_, rfl⟩
    rw [hfr] at CB
    obtain ⟨AL, hAL⟩ : ∃ AL, alvL bs' ss' later = AL := ⟨_, rfl⟩
    obtain ⟨BL, hBL⟩ : ∃ BL, alvL bs ss later = BL := ⟨_, rfl⟩
    have hlA : AL.length = bs.length := by rw [← hAL, alv_len hok', hl']
    have hlB : BL.length = bs.length := by rw [← hBL, alv_len g.ok]
    have HOT : Hid (∀ i (h1 : i < AL.length) (h2 : i < BL.length), i ≠ k → AL[i] = BL[i]) := fun i h1 h2 hi => by
      have e1 : AL[i] = aliveB bs' ss' later i := by simp only [← hAL]; exact alv_at hok' i _
      have e2 : BL[i] = aliveB bs ss later i := by simp only [← hBL]; exact alv_at g.ok i _
      rw [e1, e2, ← hbs', ← hss']; exact while_other g hi
    have HZE : Hid (∀ (h1 : 0 < AL.length), AL[0] = true) := fun h1 => by
      have e1 : AL[0] = aliveB bs' ss' later 0 := by simp only [← hAL]; exact alv_at hok' 0 _
      rw [e1, ← hbs', ← hss']; exact while_zero
    have HSE : Hid (∀ (h1 : k < AL.length), AL[k] = (decide (now ≤ later) && decide (later - now < 8))) := fun h1 => by
      have e1 : AL[k] = aliveB bs' ss' later k := by simp only [← hAL]; exact alv_at hok' k _
      rw [e1, ← hbs', ← hss']; exact while_self g
    have CA1 := fun (u v : Value) => CA.out u v bs' ss'
    have CA2 := fun (u v : Value) => CA.out u v bs ss
    rw [hAL, chL_ok hok'] at CA1
    rw [hBL, chL_ok g.ok] at CA2
    have HCA1 := hid CA1
    have HCA2 := hid CA2
    have HLA : Hid (AL.length = bs.length) := hlA
    have HLB : Hid (BL.length = bs.length) := hlB
    have HL' : Hid (bs'.length = bs.length) := hl'
    have HAT : Hid (∀ (h : k < bs'.length), bs'[k] = boot) := hat'
    have HXK : Hid (∀ (h : k < bs.length), bs[k] = x) := fun _ => hx
    have HKK : Hid (1 ≤ k ∧ k < bs.length) := ⟨hone, hk⟩
    have z3 : (k : Int) < (bs'.length : Int) := by omega
    have z4 : ¬ (bs'.length : Int) ≤ (k : Int) := by omega
    have n2 : ¬ bs.length ≤ k := by omega
    have n2d : decide (bs.length ≤ k) = false := decide_eq_false n2
    have n4 : ¬ bs'.length ≤ k := by omega
    have n4d : decide (bs'.length ≤ k) = false := decide_eq_false n4
    have n1 : k < bs.length := by omega
    have n3 : k < bs'.length := by omega
    have z4d : decide ((bs'.length : Int) ≤ (k : Int)) = false := decide_eq_false z4
    have z5 : ((AL.length : Int) != (BL.length : Int)) = false := by simp; omega
    have z6 : (k : Int) < (AL.length : Int) := by omega
    have z7 : (0 : Int) < (AL.length : Int) := by omega
    have HNO : Hid ((0 ≤ now ∧ now < 18446744073709551616) ∧ 0 ≤ later ∧ later < 18446744073709551616) := ⟨hno, hla⟩
    have cell_k : Hid (∀ (W : World) (p : Option Addr) (c : Nat) (zs : List Int) (x : Int), (hz : k < zs.length) → zs[k] = x → NumsL W (.slice p zs.length c) zs → ∃ b o, p = some ⟨b, o, none⟩ ∧ ∀ W', Below W.heap.size W W' → W'.cell? ⟨b, o + k, none⟩ = some (.int .u64 x)) := fun W p c zs x hz hzx hn => by
      obtain ⟨p', c', ev, _, _, _, _, _, hq⟩ := hn
      simp only [Value.slice.injEq] at ev
      obtain ⟨rfl, _, rfl⟩ := ev
      obtain ⟨b2, o2, e, hlt, hc⟩ := hq (by omega)
      exact ⟨b2, o2, e, fun W' hb => by rw [(hc.below hlt hb) k hz, hzx]⟩
    obtain ⟨b0, o0, rfl, hc0⟩ := cell_k.out W0 p c bs x hk hx HX.out.n1
    have HC0 : Hid (∀ W', Below W0.heap.size W0 W' → W'.cell? ⟨b0, o0 + k, none⟩ = some (.int .u64 x)) := hc0
    clear CA CA1 CA2 hlA hlB hl' hat' hAL hBL hok' eB eS eR hE g hx hk hone hno hla hbs' hss' hfr hc0
    go_enter Try.func4, Try.ntmps4
    go_wp2_with fail
    refine CL.out.mono ?_
    rintro e w0 ⟨rfl, hb0⟩
    have HX0 : Hid (BoxL w.heap.size (some ⟨b0, o0, none⟩) c q d bs ss w0) := HX.out.below hb0
    have HW0 : Hid (Below W0.heap.size W0 w0) := hb0
    have x0 := HX0.out.c0
    have x1 := HX0.out.c1
    have K1 := CB.out w0 HX0.out.n1 HX0.out.n2
    clear CL CB hb0 HX
    go_wp2_with fail
    refine K1.mono ?_
    rintro e w1 ⟨p1, c1, q1, d1, rfl, hn1, hn2, hb1⟩
    obtain ⟨V1, hV1⟩ : ∃ V, w1.alloc (.cells #[.slice p1 bs'.length c1, .slice q1 ss'.length d1] 24) = V := ⟨_, rfl⟩
    obtain ⟨hA, hbV⟩ := BoxL.new hn1 hn2 hV1
    have hbb : Below w0.heap.size w0 V1 := hb1.trans (hbV.mono hb1.size)
    obtain ⟨ba, oa, rfl, hca⟩ := cell_k.out V1 p1 c1 bs' boot (by have := HL'.out; have := HKK.out; omega) (HAT.out _) hA.n1
    have HXA : Hid (BoxL w1.heap.size (some ⟨ba, oa, none⟩) c1 q1 d1 bs' ss' V1) := hA
    have HX1 : Hid (BoxL w.heap.size (some ⟨b0, o0, none⟩) c q d bs ss V1) := HX0.out.below hbb
    have HW1 : Hid (Below W0.heap.size W0 V1) := HW0.out.trans (hbb.mono HW0.out.size)
    have y0 := HXA.out.c0
    have y1 := HXA.out.c1
    have x0 := HX1.out.c0
    have x1 := HX1.out.c1
    have xk := HC0.out V1 HW1.out
    have yk := hca V1 (Below.refl _ _)
    clear K1 hn1 hn2 hb1 hA hbV hbb HX0 HW0 hca
    go_wp2_with fail
    go_quiet (fail)
    have hQ : Below V1.heap.size V1 (V1.drewN nq) := below_drewN (Below.refl _ _) nq
    have HXA2 := hid (HXA.out.below hQ)
    have HX2 := hid (HX1.out.below hQ)
    have HW2 : Hid (Below W0.heap.size W0 (V1.drewN nq)) := HW1.out.trans (hQ.mono HW1.out.size)
    obtain ⟨V2, hV2⟩ : ∃ V2, V1.drewN nq = V2 := ⟨_, rfl⟩
    rw [hV2] at HXA2 HX2 HW2 ⊢
    have y0 := HXA2.out.c0
    have y1 := HXA2.out.c1
    have x0 := HX2.out.c0
    have x1 := HX2.out.c1
    have K3 := HCA1.out _ _ V2 HXA2.out.n1 HXA2.out.n2
    clear hQ hV2 HCA1 HXA HX1 HW1 xk yk
    go_wp2_with fail
    refine K3.mono ?_
    rintro e w3 ⟨px, cx, rfl, hBx, hb3⟩
    have HX3 := hid (HX2.out.below hb3)
    have HW3 : Hid (Below W0.heap.size W0 w3) := HW2.out.trans (hb3.mono HW2.out.size)
    have HBX : Hid (BoolsL w3 (.slice px AL.length cx) AL) := hBx
    have x0 := HX3.out.c0
    have x1 := HX3.out.c1
    have K4 := HCA2.out _ _ w3 HX3.out.n1 HX3.out.n2
    clear K3 HCA2 hBx hb3 HX2 HW2 HXA2 y0 y1
    go_wp2_with fail
    refine K4.mono ?_
    rintro e w4 ⟨py, cy, rfl, hBy, hb4⟩
    obtain ⟨px', cx', ev, _, hpx⟩ := HBX.out.below hb4
    simp only [Value.slice.injEq] at ev
    obtain ⟨rfl, _, rfl⟩ := ev
    obtain ⟨py', cy', ev, _, hpy⟩ := hBy
    simp only [Value.slice.injEq] at ev
    obtain ⟨rfl, _, rfl⟩ := ev
    obtain ⟨bx, ox, rfl, hltx, hcx⟩ := hpx (by omega)
    obtain ⟨by_, oy, rfl, hlty, hcy⟩ := hpy (by have := HLA.out; have := HLB.out; omega)
    have HF : Hid (Below w.heap.size w w4) := by
      have h1 := HW3.out.trans (hb4.mono HW3.out.size)
      exact HB0.out.trans (h1.mono HB0.out.size)
    have HCX : Hid (∀ W, Below w4.heap.size w4 W → ∀ j (h : j < AL.length), W.cell? ⟨bx, ox + j, none⟩ = some (.bool AL[j])) := fun W hb j hj => by rw [hb.cell (p := ⟨bx, _, none⟩) hltx]; exact hcx j hj
    have HCY : Hid (∀ W, Below w4.heap.size w4 W → ∀ j (h : j < BL.length), W.cell? ⟨by_, oy + j, none⟩ = some (.bool BL[j])) := fun W hb j hj => by rw [hb.cell (p := ⟨by_, _, none⟩) hlty]; exact hcy j hj
    clear K4 hb4 hpx hpy hcx hcy HBX HX3 HW3 x0 x1 hltx hlty
    go_wp2_with fail
    go_loopg [101] AL.length (fun gf s101 wx => ∃ i : Nat, s101 = .int .i64 i ∧ i ≤ AL.length ∧ AL.length ≤ i + gf ∧ Hid (Below w4.heap.size w4 wx))
    case atStart => exact ⟨0, rfl, by omega, by omega, Below.refl _ _⟩
    case round =>
      obtain ⟨i, rfl, hi1, hgf, HB⟩ := hrel
      by_cases hi : i < AL.length
      · obtain ⟨g', rfl⟩ : ∃ g', gk = g' + 1 := ⟨gk - 1, by omega⟩
        have hiB : i < BL.length := by have := HLA.out; have := HLB.out; omega
        have a0 := HCX.out wr HB.out i hi
        have b0' := HCY.out wr HB.out i hiB
        have HBN : Hid (∀ n, Below w4.heap.size w4 (wr.drewN n)) := fun n => below_drewN HB.out n
        have m0 : (0 : Int) ≤ (i : Int) := by omega
        have m1 : (i : Int) < (AL.length : Int) := by omega
        have m2 : (i : Int) < (BL.length : Int) := by omega
        by_cases hik : i = k
        · have t1 : ((i : Int) != (k : Int)) = false := by simp; omega
          clear hik a0 b0'
          go_wp2_with fail
          go_quiet (fail)
          go_wp2_with fail
          go_roundg g'
          case measure => omega
          case rel => exact ⟨i + 1, by go_num, by omega, by omega, HBN.out _⟩
        · have t1 : ((i : Int) != (k : Int)) = true := by simp; omega
          have e1 := HOT.out i hi hiB hik
          rw [← e1] at b0'
          obtain ⟨bb, hbb⟩ : ∃ bb, AL[i] = bb := ⟨_, rfl⟩
          rw [hbb] at a0 b0'
          have t2 : (bb != bb) = false := by simp
          clear hik e1 hbb
          go_wp2_with fail
          go_quiet (fail)
          go_wp2_with fail
          go_roundg g'
          case measure => omega
          case rel => exact ⟨i + 1, by go_num, by omega, by omega, HBN.out _⟩
      · have m1 : ¬ (i : Int) < (AL.length : Int) := by omega
        have a0 := HCX.out wr HB.out 0 (by omega)
        have ak := HCX.out wr HB.out k (by omega)
        rw [HZE.out (by omega), Nat.add_zero] at a0
        rw [HSE.out (by omega)] at ak
        have HG : Hid (Below w.heap.size w wr) := HF.out.trans (HB.out.mono HF.out.size)
        by_cases l1 : now ≤ later
        · have hw : IntKind.u64.wrap (later - now) = later - now := by rw [IntKind.wrap_u64]; have := HNO.out; omega
          by_cases l2 : later - now < 8
          · have e8 : (decide (now ≤ later) && decide (later - now < 8)) = true := by simp [l1, l2]
            rw [e8] at ak
            go_wp2_with fail
            go_ret
            exact ⟨rfl, HG.out⟩
          · have e8 : (decide (now ≤ later) && decide (later - now < 8)) = false := by simp [l2]
            have l3 : decide (later - now < 8) = false := decide_eq_false l2
            rw [e8] at ak
            go_wp2_with fail
            go_ret
            exact ⟨rfl, HG.out⟩
        · have e8 : (decide (now ≤ later) && decide (later - now < 8)) = false := by simp [l1]
          rw [e8] at ak
          go_wp2_with fail
          go_ret
          exact ⟨rfl, HG.out⟩
  · have eF := btF_false hE
    rw [eF] at CB
    by_cases hc : chL bs ss = 0
    · have hr : refE bs ss node boot now ≠ 0 := fun e => hE (by unfold btE; rw [if_pos hc, e])
      have e1 : btB bs ss node boot now = bs := by unfold btB; rw [if_pos hc, if_neg hr]
      have e2 : btS bs ss node boot now = ss := by unfold btS; rw [if_pos hc, if_neg hr]
      have e3 : btE bs ss node boot now = refE bs ss node boot now := by unfold btE; rw [if_pos hc]
      have h6 := ref_ne (bs := bs) (ss := ss) (node := node) (boot := boot) (now := now)
      rw [e1, e2, e3] at CB
      obtain ⟨E, hE'⟩ : ∃ E, refE bs ss node boot now = E := ⟨_, rfl⟩
      rw [hE'] at CB hr h6
      have hne : (E != 0) = true := by simpa using hr
      have hn6 : (E == 6) = false := by simpa using h6
      have CS := hid (fun (u1 u2 v1 v2 : Value) (W : World) (h1 : NumsL W u1 bs) (h2 : NumsL W u2 ss) (h3 : NumsL W v1 bs) (h4 : NumsL W v2 ss) => Same_any u1 u2 v1 v2 bs ss bs ss W h1 h2 h3 h4)
      rw [sameN_self, sameN_self] at CS
      clear CA hE hc hr e1 e2 e3 h6 hE' eF
      go_enter Try.func4, Try.ntmps4
      go_wp2_with fail
      refine CL.out.mono ?_
      rintro e w0 ⟨rfl, hb0⟩
      have HX0 : Hid (BoxL w.heap.size p c q d bs ss w0) := HX.out.below hb0
      have HBw : Hid (Below w.heap.size w w0) := HB0.out.trans (hb0.mono HB0.out.size)
      have x0 := HX0.out.c0
      have x1 := HX0.out.c1
      have K1 := CB.out w0 HX0.out.n1 HX0.out.n2
      clear CL CB hb0 HX
      go_wp2_with fail
      refine K1.mono ?_
      rintro e w1 ⟨p1, c1, q1, d1, rfl, hn1, hn2, hb1⟩
      obtain ⟨V1, hV1⟩ : ∃ V, w1.alloc (.cells #[.slice p1 bs.length c1, .slice q1 ss.length d1] 24) = V := ⟨_, rfl⟩
      obtain ⟨hA, hbV⟩ := BoxL.new hn1 hn2 hV1
      have hbb : Below w0.heap.size w0 V1 := hb1.trans (hbV.mono hb1.size)
      have HXA : Hid (BoxL w1.heap.size p1 c1 q1 d1 bs ss V1) := hA
      have HX1 : Hid (BoxL w.heap.size p c q d bs ss V1) := HX0.out.below hbb
      have HB1 : Hid (Below w.heap.size w V1) := HBw.out.trans (hbb.mono HBw.out.size)
      have y0 := HXA.out.c0
      have y1 := HXA.out.c1
      have x0 := HX1.out.c0
      have x1 := HX1.out.c1
      have K2 := CS.out _ _ _ _ V1 HXA.out.n1 HXA.out.n2 HX1.out.n1 HX1.out.n2
      clear K1 hn1 hn2 hb1 hA hbV hbb HX0 HBw CS
      go_wp2_with fail
      refine K2.mono ?_
      rintro e w2 ⟨rfl, hb2⟩
      have HF : Hid (Below w.heap.size w w2) := HB1.out.trans (hb2.mono HB1.out.size)
      clear K2 hb2
      go_wp2_with fail
      go_ret
      exact ⟨rfl, HF.out⟩
    · have e1 : btB bs ss node boot now = [] := if_neg hc
      have e2 : btS bs ss node boot now = [] := if_neg hc
      have e3 : btE bs ss node boot now = 6 := if_neg hc
      rw [e1, e2, e3] at CB
      clear CA hE hc e1 e2 e3 eF
      go_enter Try.func4, Try.ntmps4
      go_wp2_with fail
      refine CL.out.mono ?_
      rintro e w0 ⟨rfl, hb0⟩
      have HX0 : Hid (BoxL w.heap.size p c q d bs ss w0) := HX.out.below hb0
      have HBw : Hid (Below w.heap.size w w0) := HB0.out.trans (hb0.mono HB0.out.size)
      have x0 := HX0.out.c0
      have x1 := HX0.out.c1
      have K1 := CB.out w0 HX0.out.n1 HX0.out.n2
      clear CL CB hb0 HX
      go_wp2_with fail
      refine K1.mono ?_
      rintro e w1 ⟨p1, c1, q1, d1, rfl, hn1, hn2, hb1⟩
      obtain ⟨V1, hV1⟩ : ∃ V, w1.alloc (.cells #[.slice p1 0 c1, .slice q1 0 d1] 24) = V := ⟨_, rfl⟩
      have gV : V1.heap[w1.heap.size]? = some (.cells #[.slice p1 0 c1, .slice q1 0 d1] 24 (0, 0)) := by rw [← hV1]; exact heap_alloc_new w1 _
      have y0 := cell_of_row (k := 0) (v := .slice p1 0 c1) gV rfl
      have y1 := cell_of_row (k := 1) (v := .slice q1 0 d1) gV rfl
      have HF : Hid (Below w.heap.size w V1) := by
        have h1 := HBw.out.trans (hb1.mono HBw.out.size)
        rw [← hV1]
        exact h1.alloc h1.size _
      clear K1 hn1 hn2 hb1 gV
      go_wp2_with fail
      go_ret
      exact ⟨rfl, HF.out⟩
end Go.Proofs.Ytdcgppdljcokpaa
