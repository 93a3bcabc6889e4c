/- The reference: a beat. -/
import Derived.Test.YtdcgppdljcokpaaLj
namespace Go.Proofs.Ytdcgppdljcokpaa
open Go.Shelf Go.RowKit Go.Lib Go.Sort
set_option linter.unusedVariables false
set_option linter.unusedSimpArgs false
attribute [local go_sem ↓] Go.wp_at_zero Go.wp_at_succ
theorem told_box {w W V Wz : World} {g ga ca gb cb : Nat} {bs ss : List Int} (hR : Rows2 (w.heap.size + 2) W ga gb bs ss) (hg : g = w.heap.size)
    (hz : Wz.heap[g]? = some (.cells #[.slice (some ⟨ga, 0, none⟩) bs.length ca, .slice (some ⟨gb, 0, none⟩) ss.length cb] 24 (0, 0))) (ho : ∀ j, j ≠ g → Wz.heap[j]? = W.heap[j]?)
    (hca : bs.length ≤ ca ∧ ca ≤ 9223372036854775807) (hcb : ss.length ≤ cb ∧ cb ≤ 9223372036854775807) (hb : Below w.heap.size w Wz) : Told w Wz g ga ca gb cb bs ss := by
  subst hg
  have a1 := hR.newa
  have a2 := hR.newb
  obtain ⟨c1, r1, z1⟩ := hR.rowa
  obtain ⟨c2, r2, z2⟩ := hR.rowb
  exact ⟨Nat.le_refl _, hz, by omega, by omega, hR.ne, by omega, by omega, ⟨c1, by rw [ho _ (by omega)]; exact r1, z1⟩, ⟨c2, by rw [ho _ (by omega)]; exact r2, z2⟩, hca, hcb, hb⟩
/-- The leases are stored into the result's box. -/
theorem told_ret {w W : World} {r ga ca gb cb : Nat} {bs ss : List Int} (h : Told w W w.heap.size ga ca gb cb bs ss) (hr : r = w.heap.size + 1) (ha : w.heap.size + 2 ≤ ga) (hb : w.heap.size + 2 ≤ gb)
    (hx : W.heap[r]? = some (.cells #[.slice none 0 0, .slice none 0 0] 24 (0, 0))) (hU : InU bs ∧ InU ss ∧ bs.length * 8 ≤ 140737488355328 ∧ ss.length * 8 ≤ 140737488355328) :
    ∃ Va Vz, W.setCell ⟨r, 0, none⟩ (.slice (some ⟨ga, 0, none⟩) bs.length ca) = Va ∧ Va.setCell ⟨r, 1, none⟩ (.slice (some ⟨gb, 0, none⟩) ss.length cb) = Vz ∧ W.cell? ⟨r, 0, none⟩ = some (.slice none 0 0) ∧ W.frozen? ⟨r, 0, none⟩ = false ∧ Va.cell? ⟨r, 1, none⟩ = some (.slice none 0 0) ∧ Va.frozen? ⟨r, 1, none⟩ = false ∧
      Vz.cell? ⟨r, 0, none⟩ = some (.slice (some ⟨ga, 0, none⟩) bs.length ca) ∧ Vz.cell? ⟨r, 1, none⟩ = some (.slice (some ⟨gb, 0, none⟩) ss.length cb) ∧ Hid (NumsL Vz (.slice (some ⟨ga, 0, none⟩) bs.length ca) bs ∧ NumsL Vz (.slice (some ⟨gb, 0, none⟩) ss.length cb) ss ∧ Below w.heap.size w Vz) := by
  subst hr
  obtain ⟨Va, Vz, hVa, hVz, r1, r2, r3, r4, r5, r6, r7, r8, r9, r10⟩ := set_two hx (.slice (some ⟨ga, 0, none⟩) bs.length ca) (.slice (some ⟨gb, 0, none⟩) ss.length cb)
  obtain ⟨ca', ra, za⟩ := h.rowa
  obtain ⟨cb', rb, zb⟩ := h.rowb
  have ra' : Vz.heap[ga]? = some (.cells ca' 25 (0, 0)) := by rw [r8 _ (by omega)]; exact ra
  have rb' : Vz.heap[gb]? = some (.cells cb' 25 (0, 0)) := by rw [r8 _ (by omega)]; exact rb
  refine ⟨Va, Vz, hVa, hVz, r1, r2, r3, r4, r5, r6, ⟨_, ca, rfl, h.capa.1, h.capa.2, hU.2.2.1, hU.1, (fun h => by cases h), fun _ => ⟨ga, 0, rfl, (Array.getElem?_eq_some_iff.1 ra').1, fun j hj => ?_⟩⟩, ⟨_, cb, rfl, h.capb.1, h.capb.2, hU.2.2.2, hU.2.1, (fun h => by cases h), fun _ => ⟨gb, 0, rfl, (Array.getElem?_eq_some_iff.1 rb').1, fun j hj => ?_⟩⟩, r10 _ _ h.below (by omega)⟩
  · rw [Nat.zero_add]; exact cell_of_row ra' (za j hj)
  · rw [Nat.zero_add]; exact cell_of_row rb' (zb j hj)
set_option maxRecDepth 100000 in
set_option maxHeartbeats 8000000 in
theorem refBeat_any (u v : Value) (bs ss : List Int) (node boot now : Int) (w : World) (h : NumsL w u bs) (h' : NumsL w v ss) (hbo : 0 ≤ boot ∧ boot < 18446744073709551616) (hno : 0 ≤ now ∧ now < 18446744073709551616) :
    Calls Try.prog 11 #[.agg #[u, v], .int .i64 node, .int .u64 boot, .int .u64 now] w fun e w' => BeatP (btB bs ss node boot now) (btS bs ss node boot now) (btF bs ss node boot now) (btE bs ss node boot now) w e w' := by
  obtain ⟨W0, hW0⟩ : ∃ W0, (w.alloc (.cells #[u, v] 24)).alloc (.cells #[.slice none 0 0, .slice none 0 0] 24) = W0 := ⟨_, rfl⟩
  have hb0 : Below w.heap.size w W0 := by rw [← hW0]; exact two_below _ _ _
  have hs0 : W0.heap.size = w.heap.size + 2 := by rw [← hW0]; simp
  have g0 : W0.heap[w.heap.size]? = some (.cells #[u, v] 24 (0, 0)) := by rw [← hW0, heap_alloc_old _ _ (by simp)]; exact heap_alloc_new w _
  have g1 : W0.heap[w.heap.size + 1]? = some (.cells #[.slice none 0 0, .slice none 0 0] 24 (0, 0)) := by
    rw [← hW0]
    have := heap_alloc_new (w.alloc (.cells #[u, v] 24)) (.cells #[.slice none 0 0, .slice none 0 0] 24)
    simpa using this
  have HG : Hid (∀ W, Below W0.heap.size W0 W → W.heap[w.heap.size]? = some (.cells #[u, v] 24 (0, 0)) ∧ W.heap[w.heap.size + 1]? = some (.cells #[.slice none 0 0, .slice none 0 0] 24 (0, 0))) := fun W hb =>
    ⟨by rw [hb.block _ (by omega)]; exact g0, by rw [hb.block _ (by omega)]; exact g1⟩
  have x0 := cell_of_row (k := 0) (v := u) g0 rfl
  have x1 := cell_of_row (k := 1) (v := v) g0 rfl
  have HB0 : Hid (Below w.heap.size w W0) := hb0
  have HS0 : Hid (W0.heap.size = w.heap.size + 2) := hs0
  have CK : Hid (Calls Try.prog 17 #[.agg #[u, v]] W0 fun e w' => e = .returned (.int .i64 (chL bs ss)) ∧ Below W0.heap.size W0 w') := refCheck_any u v bs ss W0 (h.below hb0) (h'.below hb0)
  have CC : Hid (∀ W, Below w.heap.size w W → Calls Try.prog 7 #[.agg #[u, v]] W fun e w' => CpyP bs ss W e w') := fun W hb => refCopy_any u v bs ss W (h.below hb) (h'.below hb)
  have HU : Hid (InU bs ∧ InU ss ∧ bs.length * 8 ≤ 140737488355328 ∧ ss.length * 8 ≤ 140737488355328) := ⟨h.inU, h'.inU, h.many, h'.many⟩
  have HO : Hid ((0 ≤ boot ∧ boot < 18446744073709551616) ∧ (0 ≤ now ∧ now < 18446744073709551616)) := ⟨hbo, hno⟩
  unfold btB btS btF btE
  by_cases hc : chL bs ss = 0
  · have hok := chL_zero.1 hc
    rw [hc] at CK
    rw [if_pos hc, if_pos hc, if_pos hc]
    have hl0 : 0 < bs.length := by have := hok.2.1; omega
    have hl1 : 0 < ss.length := by have := hok.2.1; have := hok.1; omega
    have HE : Hid (bs.length = ss.length) := hok.1
    have HFF : Hid ((if chL bs ss = 0 ∧ refE bs ss node boot now = 0 then !(bs.getD node.toNat 0 == boot) else false) = (if refE bs ss node boot now = 0 then !(bs.getD node.toNat 0 == boot) else false)) := by show _ = _; simp [hc]
    rw [HFF.out]
    obtain ⟨p, c, rfl, _⟩ := h
    obtain ⟨q, d, rfl, _⟩ := h'
    clear hok hb0 hs0 g0 g1 hbo hno HFF hc
    go_enter Try.func11, Try.ntmps11
    go_wp2_with fail
    refine CK.out.mono ?_
    rintro e w1 ⟨rfl, hb1⟩
    have HB1 : Hid (Below W0.heap.size W0 w1) := hb1
    have y0 : w1.cell? ⟨w.heap.size, 0, none⟩ = some (.slice p bs.length c) := cell_of_row (k := 0) (HG.out w1 hb1).1 rfl
    have y1 : w1.cell? ⟨w.heap.size, 1, none⟩ = some (.slice q ss.length d) := cell_of_row (k := 1) (HG.out w1 hb1).1 rfl
    have C2 := CC.out w1 (HB0.out.trans (hb1.mono HB0.out.size))
    clear CK hb1 x0 x1 CC
    go_wp2_with fail
    refine C2.mono ?_
    rintro e w2 ⟨p2, c2, q2, d2, rfl, hn1, hn2, hb2, hrows⟩
    obtain ⟨ga, gb, rfl, rfl, hR⟩ := hrows hl0 hl1
    have hB2 : Below W0.heap.size W0 w2 := HB1.out.trans (hb2.mono HB1.out.size)
    obtain ⟨Ua, Uz, hUa, hUz, u1, u2, u3, u4, u5, u6, u7, u8, u9, u10⟩ := set_two (HG.out w2 hB2).1 (.slice (some ⟨ga, 0, none⟩) bs.length c2) (.slice (some ⟨gb, 0, none⟩) ss.length d2)
    have hlw : w.heap.size + 2 ≤ w1.heap.size := by have := HB1.out.size; have := HS0.out; omega
    have hR2 : Rows2 (w.heap.size + 2) w2 ga gb bs ss := ⟨Nat.le_trans hlw hR.newa, Nat.le_trans hlw hR.newb, hR.ne, hR.rowa, hR.rowb⟩
    have HA : Hid (w.heap.size + 2 ≤ ga ∧ w.heap.size + 2 ≤ gb) := ⟨hR2.newa, hR2.newb⟩
    have hca : bs.length ≤ c2 ∧ c2 ≤ 9223372036854775807 := by obtain ⟨_, _, e, a, b, _⟩ := hn1; cases e; exact ⟨a, b⟩
    have hcb : ss.length ≤ d2 ∧ d2 ≤ 9223372036854775807 := by obtain ⟨_, _, e, a, b, _⟩ := hn2; cases e; exact ⟨a, b⟩
    have hbz : Below w.heap.size w Uz := u10 _ _ (HB0.out.trans (hB2.mono HB0.out.size)) (Nat.le_refl _)
    have HT : Hid (Told w Uz w.heap.size ga c2 gb d2 bs ss) := told_box (V := w2) hR2 rfl u7 u8 hca hcb hbz
    have HX : Hid (Uz.heap[w.heap.size + 1]? = some (.cells #[.slice none 0 0, .slice none 0 0] 24 (0, 0))) := by show _ = _; rw [u8 _ (by omega)]; exact (HG.out w2 hB2).2
    clear C2 hn1 hn2 hb2 hrows hR hB2 u7 u8 u9 u10 hlw hR2 hca hcb hbz y0 y1
    by_cases k1 : node < 1
    · have HQ : Hid (refE bs ss node boot now = 2) := if_pos (.inl (by omega))
      have HZ : Hid (¬ refE bs ss node boot now = 0) := fun e => by have := HQ.out; omega
      obtain ⟨Va, Vz, hVa, hVz, r1, r2, r3, r4, r5, r6, HF⟩ := told_ret HT.out rfl HA.out.1 HA.out.2 HX.out HU.out
      go_wp2_with fail
      exact bodyPost_ret (v := .tuple #[.agg #[.slice (some ⟨ga, 0, none⟩) bs.length c2, .slice (some ⟨gb, 0, none⟩) ss.length d2], .bool false, .int .i64 2]) (by simp [results, Try.results11, go_sem, r5, r6]) rfl (by (try simp only [if_neg HZ.out]); rw [HQ.out]; exact ⟨_, c2, _, d2, rfl, HF.out⟩)
    · by_cases k2 : (bs.length : Int) ≤ node
      · have HQ : Hid (refE bs ss node boot now = 2) := if_pos (.inr (.inl k2))
        have HZ : Hid (¬ refE bs ss node boot now = 0) := fun e => by have := HQ.out; omega
        obtain ⟨Va, Vz, hVa, hVz, r1, r2, r3, r4, r5, r6, HF⟩ := told_ret HT.out rfl HA.out.1 HA.out.2 HX.out HU.out
        go_wp2_with fail
        exact bodyPost_ret (v := .tuple #[.agg #[.slice (some ⟨ga, 0, none⟩) bs.length c2, .slice (some ⟨gb, 0, none⟩) ss.length d2], .bool false, .int .i64 2]) (by simp [results, Try.results11, go_sem, r5, r6]) rfl (by (try simp only [if_neg HZ.out]); rw [HQ.out]; exact ⟨_, c2, _, d2, rfl, HF.out⟩)
      · by_cases k3 : boot = 0
        · have HQ : Hid (refE bs ss node boot now = 2) := if_pos (.inr (.inr k3))
          have t3 : (boot == 0) = true := by simp [k3]
          clear k3
          have HZ : Hid (¬ refE bs ss node boot now = 0) := fun e => by have := HQ.out; omega
          obtain ⟨Va, Vz, hVa, hVz, r1, r2, r3, r4, r5, r6, HF⟩ := told_ret HT.out rfl HA.out.1 HA.out.2 HX.out HU.out
          go_wp2_with fail
          exact bodyPost_ret (v := .tuple #[.agg #[.slice (some ⟨ga, 0, none⟩) bs.length c2, .slice (some ⟨gb, 0, none⟩) ss.length d2], .bool false, .int .i64 2]) (by simp [results, Try.results11, go_sem, r5, r6]) rfl (by (try simp only [if_neg HZ.out]); rw [HQ.out]; exact ⟨_, c2, _, d2, rfl, HF.out⟩)
        · have t3 : (boot == 0) = false := by simp [k3]
          obtain ⟨k, rfl⟩ : ∃ k : Nat, node = (k : Int) := ⟨node.toNat, by omega⟩
          have hk : k < bs.length := by omega
          have hk' : k < ss.length := by have := HE.out; omega
          have zk0 : (0 : Int) ≤ (k : Int) := by omega
          have zk1 : (k : Int) < (bs.length : Int) := by omega
          have zk2 : (k : Int) < (ss.length : Int) := by have := HE.out; omega
          have e0 : bs.getD ((k : Int).toNat) 0 = bs[k] := by simp [hk]
          have e1 : ss.getD ((k : Int).toNat) 0 = ss[k] := by simp [hk']
          have HQ0 : Hid (refE bs ss (k : Int) boot now = if stale bs[k] ss[k] boot now = true then 17 else 0) := by
            show _ = _
            unfold refE
            rw [if_neg (by omega), e0, e1]
          have HE0 : Hid (bs.getD ((k : Int).toNat) 0 = bs[k]) := e0
          obtain ⟨cua, ra, za⟩ := HT.out.rowa
          obtain ⟨cub, rb, zb⟩ := HT.out.rowb
          have c0 := cell_of_row ra (za k hk)
          have c1 := cell_of_row rb (zb k hk')
          obtain ⟨x, hxk⟩ : ∃ x, bs[k] = x := ⟨_, rfl⟩
          obtain ⟨y, hyk⟩ : ∃ y, ss[k] = y := ⟨_, rfl⟩
          rw [hxk] at c0 HQ0 HE0
          rw [hyk] at c1 HQ0
          have HXK : Hid (bs[k] = x) := hxk
          clear k3 e0 e1 ra rb za zb hxk hyk
          unfold stale at HQ0
          by_cases s1 : boot < x
          · have HQ : Hid (refE bs ss (k : Int) boot now = 17) := by show _ = _; have := HQ0.out; simpa [s1] using this
            clear HQ0
            have HZ : Hid (¬ refE bs ss (k : Int) boot now = 0) := fun e => by have := HQ.out; omega
            obtain ⟨Va, Vz, hVa, hVz, r1, r2, r3, r4, r5, r6, HF⟩ := told_ret HT.out rfl HA.out.1 HA.out.2 HX.out HU.out
            go_wp2_with fail
            exact bodyPost_ret (v := .tuple #[.agg #[.slice (some ⟨ga, 0, none⟩) bs.length c2, .slice (some ⟨gb, 0, none⟩) ss.length d2], .bool false, .int .i64 17]) (by simp [results, Try.results11, go_sem, r5, r6]) rfl (by (try simp only [if_neg HZ.out]); rw [HQ.out]; exact ⟨_, c2, _, d2, rfl, HF.out⟩)
          · by_cases s2 : boot = x
            · subst s2
              have t4 : (boot == boot) = true := by simp
              by_cases s3 : now < y
              · have HQ : Hid (refE bs ss (k : Int) boot now = 17) := by show _ = _; have := HQ0.out; simpa [s1, s3] using this
                clear HQ0
                have HZ : Hid (¬ refE bs ss (k : Int) boot now = 0) := fun e => by have := HQ.out; omega
                obtain ⟨Va, Vz, hVa, hVz, r1, r2, r3, r4, r5, r6, HF⟩ := told_ret HT.out rfl HA.out.1 HA.out.2 HX.out HU.out
                go_wp2_with fail
                exact bodyPost_ret (v := .tuple #[.agg #[.slice (some ⟨ga, 0, none⟩) bs.length c2, .slice (some ⟨gb, 0, none⟩) ss.length d2], .bool false, .int .i64 17]) (by simp [results, Try.results11, go_sem, r5, r6]) rfl (by (try simp only [if_neg HZ.out]); rw [HQ.out]; exact ⟨_, c2, _, d2, rfl, HF.out⟩)
              · have HQ : Hid (refE bs ss (k : Int) boot now = 0) := by show _ = _; have := HQ0.out; simpa [s1, s3] using this
                have t5 : (boot != boot) = false := by simp
                clear HQ0
                obtain ⟨⟨oa, ca1⟩, fa, hTa⟩ := HT.out.seta k boot hk
                obtain ⟨Wx, hWx⟩ : ∃ Wx, Uz.setCell ⟨ga, k, none⟩ (.int .u64 boot) = Wx := ⟨_, rfl⟩
                rw [hWx] at hTa
                obtain ⟨⟨ob, cb1⟩, fb, hTb⟩ := hTa.setb k now hk'
                obtain ⟨Wy, hWy⟩ : ∃ Wy, Wx.setCell ⟨gb, k, none⟩ (.int .u64 now) = Wy := ⟨_, rfl⟩
                rw [hWy] at hTb
                have v1 := cell_of_row (k := 1) (v := .slice (some ⟨gb, 0, none⟩) ss.length d2) (by have := hTa.box; rwa [List.length_set] at this) rfl
                have v2 := cell_of_row (k := 0) (v := .slice (some ⟨ga, 0, none⟩) bs.length c2) (by have := hTb.box; rwa [List.length_set, List.length_set] at this) rfl
                have v3 := cell_of_row (k := 1) (v := .slice (some ⟨gb, 0, none⟩) ss.length d2) (by have := hTb.box; rwa [List.length_set, List.length_set] at this) rfl
                have hbx : Wy.heap[w.heap.size + 1]? = some (.cells #[.slice none 0 0, .slice none 0 0] 24 (0, 0)) := by
                  have := HA.out
                  rw [← hWy, heap_setCell_other _ _ _ _ (by show w.heap.size + 1 ≠ gb; omega), ← hWx, heap_setCell_other _ _ _ _ (by show w.heap.size + 1 ≠ ga; omega)]; exact HX.out
                obtain ⟨Va, Vz, hVa, hVz, r1, r2, r3, r4, r5, r6, HF⟩ := told_ret hTb rfl HA.out.1 HA.out.2 hbx ⟨HU.out.1.set _ _ HO.out.1, HU.out.2.1.set _ _ HO.out.2, by rw [List.length_set]; exact HU.out.2.2.1, by rw [List.length_set]; exact HU.out.2.2.2⟩
                rw [List.length_set] at hVa r5
                rw [List.length_set] at hVz r6
                clear hTa hTb hbx
                go_wp2_with fail
                exact bodyPost_ret (v := .tuple #[.agg #[.slice (some ⟨ga, 0, none⟩) bs.length c2, .slice (some ⟨gb, 0, none⟩) ss.length d2], .bool (boot != boot), .int .i64 0]) (by simp [results, Try.results11, go_sem, r5, r6, t5]) rfl (by (try simp only [if_pos HQ.out, HE0.out, Int.toNat_natCast]); (try rw [HQ.out]); (try rw [HXK.out]); exact ⟨_, c2, _, d2, by rw [List.length_set, List.length_set]; rfl, HF.out⟩)
            · have HQ : Hid (refE bs ss (k : Int) boot now = 0) := by show _ = _; have := HQ0.out; simpa [s1, s2] using this
              have t4 : (boot == x) = false := by simp [s2]
              have t5 : (x != boot) = true := by simp; exact fun e => s2 e.symm
              clear HQ0
              obtain ⟨⟨oa, ca1⟩, fa, hTa⟩ := HT.out.seta k boot hk
              obtain ⟨Wx, hWx⟩ : ∃ Wx, Uz.setCell ⟨ga, k, none⟩ (.int .u64 boot) = Wx := ⟨_, rfl⟩
              rw [hWx] at hTa
              obtain ⟨⟨ob, cb1⟩, fb, hTb⟩ := hTa.setb k now hk'
              obtain ⟨Wy, hWy⟩ : ∃ Wy, Wx.setCell ⟨gb, k, none⟩ (.int .u64 now) = Wy := ⟨_, rfl⟩
              rw [hWy] at hTb
              have v1 := cell_of_row (k := 1) (v := .slice (some ⟨gb, 0, none⟩) ss.length d2) (by have := hTa.box; rwa [List.length_set] at this) rfl
              have v2 := cell_of_row (k := 0) (v := .slice (some ⟨ga, 0, none⟩) bs.length c2) (by have := hTb.box; rwa [List.length_set, List.length_set] at this) rfl
              have v3 := cell_of_row (k := 1) (v := .slice (some ⟨gb, 0, none⟩) ss.length d2) (by have := hTb.box; rwa [List.length_set, List.length_set] at this) rfl
              have hbx : Wy.heap[w.heap.size + 1]? = some (.cells #[.slice none 0 0, .slice none 0 0] 24 (0, 0)) := by
                have := HA.out
                rw [← hWy, heap_setCell_other _ _ _ _ (by show w.heap.size + 1 ≠ gb; omega), ← hWx, heap_setCell_other _ _ _ _ (by show w.heap.size + 1 ≠ ga; omega)]; exact HX.out
              obtain ⟨Va, Vz, hVa, hVz, r1, r2, r3, r4, r5, r6, HF⟩ := told_ret hTb rfl HA.out.1 HA.out.2 hbx ⟨HU.out.1.set _ _ HO.out.1, HU.out.2.1.set _ _ HO.out.2, by rw [List.length_set]; exact HU.out.2.2.1, by rw [List.length_set]; exact HU.out.2.2.2⟩
              rw [List.length_set] at hVa r5
              rw [List.length_set] at hVz r6
              clear hTa hTb hbx
              go_wp2_with fail
              exact bodyPost_ret (v := .tuple #[.agg #[.slice (some ⟨ga, 0, none⟩) bs.length c2, .slice (some ⟨gb, 0, none⟩) ss.length d2], .bool (x != boot), .int .i64 0]) (by simp [results, Try.results11, go_sem, r5, r6, t5]) rfl (by (try simp only [if_pos HQ.out, HE0.out, Int.toNat_natCast]); (try rw [HQ.out]); (try rw [HXK.out]); exact ⟨_, c2, _, d2, by rw [List.length_set, List.length_set]; rfl, HF.out⟩)
  · have hno' := chL_no (fun x => hc (chL_zero.2 x))
    rw [hno'] at CK
    rw [if_neg hc, if_neg hc, if_neg hc, if_neg (fun x => hc x.1)]
    obtain ⟨p, c, rfl, _⟩ := h
    obtain ⟨q, d, rfl, _⟩ := h'
    clear hb0 hs0 g0 g1 hbo hno hno' hc
    go_enter Try.func11, Try.ntmps11
    go_wp2_with fail
    refine CK.out.mono ?_
    rintro e w1 ⟨rfl, hb1⟩
    have hg1 := (HG.out w1 hb1).2
    have t0 : w1.setCell ⟨w.heap.size + 1, 0, none⟩ (.slice none 0 0) = w1 := setCell_self hg1 rfl
    have t1 : w1.setCell ⟨w.heap.size + 1, 1, none⟩ (.slice none 0 0) = w1 := setCell_self hg1 rfl
    have y0 := cell_of_row (k := 0) hg1 rfl
    have y1 := cell_of_row (k := 1) hg1 rfl
    have f0 := frozen_zero hg1 0
    have f1 := frozen_zero hg1 1
    have HB1 : Hid (Below w.heap.size w w1) := HB0.out.trans (hb1.mono HB0.out.size)
    clear CK hb1 hg1 x0 x1
    go_wp2_with fail
    exact bodyPost_ret (v := .tuple #[.agg #[.slice none 0 0, .slice none 0 0], .bool false, .int .i64 6]) (by simp [results, Try.results11, go_sem, y0, y1]) rfl ⟨none, 0, none, 0, rfl, NumsL.nil _, NumsL.nil _, HB1.out⟩
end Go.Proofs.Ytdcgppdljcokpaa
