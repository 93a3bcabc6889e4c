/- The reference: what Do answers. -/
import Derived.Test.YtedjfbkpebmggaaRh
namespace Go.Proofs.Ytedjfbkpebmggaa
open Go.Shelf Go.RowKit Go.Lib Go.Sort
set_option linter.unusedVariables false
set_option linter.unusedSimpArgs false
attribute [local go_sem ↓] Go.wp_at_zero Go.wp_at_succ
set_option maxRecDepth 100000 in
set_option maxHeartbeats 8000000 in
theorem refDo_any (v : Value) (dn : Bool) (fu kk : Int) (nm tt dt : ByteArray) (fs : List DF) (w : World) (h : FsL w v fs) (hm : (fs.length + 1) * 40 ≤ 140737488355328) (hr : -9223372036854775808 ≤ fu ∧ fu ≤ 9223372036854775807)
    (h1 : nm.size ≤ 140737488355328) (h2 : tt.size ≤ 140737488355328) (h3 : dt.size ≤ 140737488355328) :
    Calls Try.prog 11 #[.agg #[v, .bool dn, .int .i64 fu], .agg #[.int .u8 kk, .string nm, .string tt, .string dt]] w fun e w' => Did (DoR fs dn fu kk nm tt dt) w e w' := by
  obtain ⟨W0, hW0, hb0, hs0, hx⟩ := dobox w v dn fu kk nm tt dt
  have HX : Hid _ := hx
  have HG0 : Hid (∀ W, Below W0.heap.size W0 W → W.heap[w.heap.size]? = some (.cells #[v, .bool dn, .int .i64 fu] 24 (0, 0)) ∧ W.heap[w.heap.size + 1]? = some (.cells #[.int .u8 kk, .string nm, .string tt, .string dt] 27 (0, 0))) := fun W hb => by
    refine ⟨?_, ?_⟩
    · rw [hb.block _ (by omega), ← hW0, heap_alloc_old _ _ (by simp; omega), heap_alloc_old _ _ (by simp)]; exact heap_alloc_new w _
    · rw [hb.block _ (by omega), ← hW0, heap_alloc_old _ _ (by simp)]
      have := heap_alloc_new (w.alloc (.cells #[v, .bool dn, .int .i64 fu] 24)) (.cells #[.int .u8 kk, .string nm, .string tt, .string dt] 27)
      simpa using this
  have C1 : Hid (Calls Try.prog 19 #[.agg #[v, .bool dn, .int .i64 fu]] W0 fun e w' => e = .returned (.int .i64 (chE fs)) ∧ Below W0.heap.size W0 w') := refCheck_any v dn fu fs W0 (h.below hb0)
  have C2 : Hid (∀ W, Below w.heap.size w W → Calls Try.prog 9 #[.agg #[v, .bool dn, .int .i64 fu]] W fun e w' => Was fs dn fu W e w') := fun W hb => refCopy_any v dn fu fs W (h.below hb)
  have HB0 : Hid (Below w.heap.size w W0) := hb0
  have HS0 : Hid (W0.heap.size = w.heap.size + 3) := hs0
  obtain ⟨⟨x0, x1, x2⟩, ⟨y0, y1, y2, y3⟩, _⟩ := hx W0 (Below.refl _ _)
  have HSM : Hid (SmallF fs) := h.small
  obtain ⟨p, c, rfl, _⟩ := h
  by_cases hok : okF fs = true
  · have HDR : Hid (DoR fs dn fu kk nm tt dt = doR fs dn fu kk nm tt dt) := by show _ = _; unfold DoR; rw [if_pos hok]
    have HO : Hid (OkF fs) := okF_iff.1 hok
    have hch : chE fs = 0 := by unfold chE; rw [if_pos hok]
    rw [hch] at C1
    clear hch hx hb0 hs0 hok
    go_enter Try.func11, Try.ntmps11
    go_wp2_with fail
    refine C1.out.mono ?_
    rintro e w1 ⟨rfl, hb1⟩
    obtain ⟨⟨a0, a1, a2⟩, ⟨a3, a4, a5, a6⟩, _⟩ := HX.out w1 hb1
    have CD := C2.out w1 (HB0.out.trans (hb1.mono HB0.out.size))
    have HB1 : Hid (Below W0.heap.size W0 w1) := hb1
    clear C1 C2 hb1 x0 x1 x2 y0 y1 y2 y3
    go_wp2_with fail
    refine CD.mono ?_
    rintro e w2 ⟨p2, c2, rfl, ho2, hb2⟩
    have hB2 : Below W0.heap.size W0 w2 := HB1.out.trans (hb2.mono HB1.out.size)
    obtain ⟨g0, g1⟩ := HG0.out w2 hB2
    obtain ⟨Wa, Wb, Wc, hWa, hWb, hWc, ⟨oa, ca⟩, fa, ⟨ob, cb⟩, fb, ⟨oc, cc⟩, fc, hbl, hgc, _, _, _⟩ := set_disk g0 (.slice p2 fs.length c2) (.bool dn) (.int .i64 fu)
    obtain ⟨o1, o2⟩ := set3_other hWa hWb hWc
    have HG : Hid (DoG w kk nm tt dt fs dn fu p2 c2 Wc) := ⟨hgc, by rw [o1 _ (by omega)]; exact g1, by rw [o1 _ (by omega)]; exact (HX.out w2 hB2).2.2, hbl _ _ (HB0.out.trans (hB2.mono HB0.out.size)) (Nat.le_refl _), (ho2.but g0 o1).mono (by have := HB1.out.size; have := HS0.out; omega)⟩
    obtain ⟨⟨d0, d1, d2⟩, d3, d4, d5, d6⟩ := HG.out.cells
    clear ho2 hb2 hB2 g0 g1 hbl hgc o1 o2 CD a0 a1 a2 a3 a4 a5 a6 HX HG0 HB1
    by_cases hk : 1 ≤ kk ∧ kk ≤ 4
    · obtain ⟨hk1, hk2⟩ := hk
      have q1 : ¬ kk < 1 := by omega
      have q2 : ¬ 5 ≤ kk := by omega
      cases dn with
      | true =>
        have HD : Hid (DoR fs true fu kk nm tt dt = ⟨fs, true, fu, 12⟩) := by show _ = _; rw [HDR.out]; unfold doR; rw [if_neg (by omega), if_pos rfl]
        obtain ⟨Va, Vb, Vc, hVa, hVb, hVc, ⟨⟨pa, ka⟩, ga, ⟨pb, kb⟩, gb, ⟨pc, kc⟩, gc⟩, ⟨r0, r1, r2⟩, hdid⟩ := HG.out.ret (e := 12) (by omega) HSM.out
        have HF : Hid (Did ⟨fs, true, fu, 12⟩ w (.returned (.tuple #[.agg #[.slice p2 fs.length c2, .bool true, .int .i64 (fu)], .int .i64 (12)])) Vc) := hdid
        clear hdid HO hk1 hk2
        go_wp2_with fail
        exact bodyPost_ret (v := .tuple #[.agg #[.slice p2 fs.length c2, .bool true, .int .i64 (fu)], .int .i64 (12)]) (by simp [results, Try.results11, go_sem, r0, r1, r2]) rfl (by rw [HD.out]; exact HF.out)
      | false =>
        have hlW : FsL Wc (.slice p2 fs.length c2) fs := HG.out.2.2.2.2.files (by omega) HSM.out
        have C3 : Hid (Calls Try.prog 24 #[.agg #[.slice p2 fs.length c2, .bool false, .int .i64 fu], .agg #[.int .u8 kk, .string nm, .string tt, .string dt]] Wc fun e w' => e = .returned (.int .i64 (chgE fs kk nm tt dt)) ∧ Below Wc.heap.size Wc w') := refuses_any _ false fu kk nm tt dt fs Wc hlW HO.out ⟨hk1, hk2⟩ h3
        clear hlW
        go_wp2_with fail
        refine C3.out.mono ?_
        rintro e w3 ⟨rfl, hb3⟩
        have HG3 : Hid (DoG w kk nm tt dt fs false fu p2 c2 w3) := HG.out.below hb3
        obtain ⟨⟨d0, d1, d2⟩, d3, d4, d5, d6⟩ := HG3.out.cells
        clear hb3 C3 HG hWa hWb hWc ca fa cb fb cc fc
        by_cases he : chgE fs kk nm tt dt = 0
        · rw [he]
          have HDF0 : Hid (DoR fs false fu kk nm tt dt = ⟨if fu = 0 ∧ kk ≠ 1 then fs else chgF fs kk nm tt dt, if fu = 0 then true else false, if 0 < fu then fu - 1 else fu, if fu = 0 then 12 else 0⟩) := by show _ = _; rw [HDR.out]; unfold doR; rw [if_neg (by omega), if_neg (by simp), if_neg (by simpa using he)]
          by_cases hkk : kk = 1
          · subst hkk
            have HDF : Hid (DoR fs false fu 1 nm tt dt = ⟨if fu = 0 ∧ (1 : Int) ≠ 1 then fs else chgF fs 1 nm tt dt, if fu = 0 then true else false, if 0 < fu then fu - 1 else fu, if fu = 0 then 12 else 0⟩) := HDF0.out
            have HGd : Hid (DoG w 1 nm tt dt fs false fu p2 c2 w3) := HG3.out
            have C4 : Hid (Calls Try.prog 25 #[.agg #[.slice p2 fs.length c2, .bool false, .int .i64 fu], .agg #[.string nm, .string dt, .int .i64 0]] w3 fun e w' => Was (wi ⟨nm, dt, 0⟩ fs) false fu w3 e w') := refWith_any _ false fu nm dt 0 fs w3 (HGd.out.2.2.2.2.files (by omega) HSM.out) HO.out.2.1 hm
            have hgl := wi_length ⟨nm, dt, 0⟩ fs
            have HSM0 : Hid (SmallF (wi ⟨nm, dt, 0⟩ fs)) := insK_small (wo_small HSM.out) ⟨h1, h3⟩
            have HGS0 : Hid (chgF fs 1 nm tt dt = wi ⟨nm, dt, 0⟩ fs) := by show _ = _; unfold chgF; rw [if_pos rfl, put_with]
            obtain ⟨gs, hgs⟩ : ∃ gs, wi ⟨nm, dt, 0⟩ fs = gs := ⟨_, rfl⟩
            rw [hgs] at C4 hgl HSM0 HGS0
            clear hgs HSM
            have HSM : Hid (SmallF gs) := HSM0.out
            have HGS : Hid (chgF fs 1 nm tt dt = gs) := HGS0.out
            obtain ⟨⟨v0, v1, v2⟩, v3, v4, v5, v6⟩ := HGd.out.cells
            clear HG3 HSM0 HGS0
            go_wp2_with fail
            refine C4.out.mono ?_
            rintro e w4 ⟨p4, c4, rfl, ho4, hb4⟩
            obtain ⟨Wa, Wb, Wd, hWa, hWb, hWd, ⟨⟨oa, ca⟩, fa, ⟨ob, cb⟩, fb, ⟨oc, cc⟩, fc⟩, hG4⟩ := HGd.out.put (dn' := false) (fu' := fu) hb4 (by omega) ho4
            have HG4 : Hid (DoG w 1 nm tt dt gs false fu p4 c4 Wd) := hG4
            obtain ⟨⟨s0, s1, s2⟩, s3, s4, s5, s6⟩ := HG4.out.cells
            clear hG4 ho4 hb4 C4 HGd v0 v1 v2 v3 v4 v5 v6
            by_cases hf0 : fu = 0
            · subst hf0
              obtain ⟨Wz, hWz, ⟨oz, cz⟩, fz, hz⟩ := HG4.out.down true
              have HG5 : Hid (DoG w 1 nm tt dt gs true 0 p4 c4 Wz) := hz
              obtain ⟨⟨u0, u1, u2⟩, u3, u4, u5, u6⟩ := HG5.out.cells
              have HD : Hid (DoR fs false 0 1 nm tt dt = ⟨gs, true, 0, 12⟩) := by show _ = _; rw [HDF.out, ← HGS.out]; simp
              clear hz HG4 HO
              obtain ⟨Va, Vb, Vc, hVa, hVb, hVc, ⟨⟨pa, ka⟩, ga, ⟨pb, kb⟩, gb, ⟨pc, kc⟩, gc⟩, ⟨r0, r1, r2⟩, hdid⟩ := HG5.out.ret (e := 12) (by omega) HSM.out
              have HF : Hid (Did ⟨gs, true, 0, 12⟩ w (.returned (.tuple #[.agg #[.slice p4 gs.length c4, .bool true, .int .i64 (0)], .int .i64 (12)])) Vc) := hdid
              clear hdid 
              go_wp2_with fail
              exact bodyPost_ret (v := .tuple #[.agg #[.slice p4 gs.length c4, .bool true, .int .i64 (0)], .int .i64 (12)]) (by simp [results, Try.results11, go_sem, r0, r1, r2]) rfl (by rw [HD.out]; exact HF.out)
            · by_cases hf1 : 0 < fu
              · obtain ⟨fv, hfv⟩ : ∃ fv, fu - 1 = fv := ⟨_, rfl⟩
                have qw : IntKind.i64.wrap (fu - 1) = fv := by rw [IntKind.wrap_i64]; omega
                have HDG : Hid (DoR fs false fu 1 nm tt dt = ⟨chgF fs 1 nm tt dt, false, fv, 0⟩) := by show _ = _; rw [HDF.out, if_neg hf0, if_neg hf0, if_pos hf1, if_neg (by omega), hfv]
                obtain ⟨Wz, hWz, ⟨oz, cz⟩, fz, hz⟩ := HG4.out.fuse fv
                have HG5 : Hid (DoG w 1 nm tt dt gs false fv p4 c4 Wz) := hz
                obtain ⟨⟨u0, u1, u2⟩, u3, u4, u5, u6⟩ := HG5.out.cells
                have qf : (fu == 0) = false := by simpa using hf0
                clear hz HG4 hfv HDF
                have HFi : Hid (Calls Try.prog 26 #[.agg #[.slice p4 gs.length c4, .bool false, .int .i64 (fv)], .string nm] Wz fun e w' => ∃ k : Int, e = .returned (.int .i64 k) ∧ idx nm gs k ∧ Below Wz.heap.size Wz w') := refFind_any _ false (fv) nm gs Wz (HG5.out.2.2.2.2.files (by omega) HSM.out)
                go_wp2_with fail
                refine HFi.out.mono ?_
                rintro e wf ⟨k, rfl, hix, hbf⟩
                have HGf : Hid (DoG w 1 nm tt dt gs false (fv) p4 c4 wf) := HG5.out.below hbf
                obtain ⟨⟨t0, t1, t2⟩, t3, t4, t5, t6⟩ := HGf.out.cells
                clear hbf HFi HG5
                have HD : Hid (DoR fs false fu 1 nm tt dt = ⟨gs, false, fv, 0⟩) := by show _ = _; rw [HDG.out, HGS.out]
                obtain ⟨Va, Vb, Vc, hVa, hVb, hVc, ⟨⟨pa, ka⟩, ga, ⟨pb, kb⟩, gb, ⟨pc, kc⟩, gc⟩, ⟨r0, r1, r2⟩, hdid⟩ := HGf.out.ret (e := 0) (by omega) HSM.out
                have HF : Hid (Did ⟨gs, false, fv, 0⟩ w (.returned (.tuple #[.agg #[.slice p4 gs.length c4, .bool false, .int .i64 (fv)], .int .i64 (0)])) Vc) := hdid
                clear hdid hix
                go_wp2_with fail
                exact bodyPost_ret (v := .tuple #[.agg #[.slice p4 gs.length c4, .bool false, .int .i64 (fv)], .int .i64 (0)]) (by simp [results, Try.results11, go_sem, r0, r1, r2]) rfl (by rw [HD.out]; exact HF.out)
              · have HDG : Hid (DoR fs false fu 1 nm tt dt = ⟨chgF fs 1 nm tt dt, false, fu, 0⟩) := by show _ = _; rw [HDF.out, if_neg hf0, if_neg hf0, if_neg hf1, if_neg (by omega)]
                have qf : (fu == 0) = false := by simpa using hf0
                clear HDF
                have HFi : Hid (Calls Try.prog 26 #[.agg #[.slice p4 gs.length c4, .bool false, .int .i64 (fu)], .string nm] Wd fun e w' => ∃ k : Int, e = .returned (.int .i64 k) ∧ idx nm gs k ∧ Below Wd.heap.size Wd w') := refFind_any _ false (fu) nm gs Wd (HG4.out.2.2.2.2.files (by omega) HSM.out)
                go_wp2_with fail
                refine HFi.out.mono ?_
                rintro e wf ⟨k, rfl, hix, hbf⟩
                have HGf : Hid (DoG w 1 nm tt dt gs false (fu) p4 c4 wf) := HG4.out.below hbf
                obtain ⟨⟨t0, t1, t2⟩, t3, t4, t5, t6⟩ := HGf.out.cells
                clear hbf HFi HG4
                have HD : Hid (DoR fs false fu 1 nm tt dt = ⟨gs, false, fu, 0⟩) := by show _ = _; rw [HDG.out, HGS.out]
                obtain ⟨Va, Vb, Vc, hVa, hVb, hVc, ⟨⟨pa, ka⟩, ga, ⟨pb, kb⟩, gb, ⟨pc, kc⟩, gc⟩, ⟨r0, r1, r2⟩, hdid⟩ := HGf.out.ret (e := 0) (by omega) HSM.out
                have HF : Hid (Did ⟨gs, false, fu, 0⟩ w (.returned (.tuple #[.agg #[.slice p4 gs.length c4, .bool false, .int .i64 (fu)], .int .i64 (0)])) Vc) := hdid
                clear hdid hix
                go_wp2_with fail
                exact bodyPost_ret (v := .tuple #[.agg #[.slice p4 gs.length c4, .bool false, .int .i64 (fu)], .int .i64 (0)]) (by simp [results, Try.results11, go_sem, r0, r1, r2]) rfl (by rw [HD.out]; exact HF.out)
          · by_cases hkk : kk = 2
            · subst hkk
              have HDF : Hid (DoR fs false fu 2 nm tt dt = ⟨if fu = 0 ∧ (2 : Int) ≠ 1 then fs else chgF fs 2 nm tt dt, if fu = 0 then true else false, if 0 < fu then fu - 1 else fu, if fu = 0 then 12 else 0⟩) := HDF0.out
              have HHAS : Hid (has nm fs = true) := by
                show _ = _
                cases hh : has nm fs with
                | true => rfl
                | false => unfold chgE synE movE at he; rw [hh] at he; simp at he
              by_cases hf0 : fu = 0
              · subst hf0
                obtain ⟨Wz, hWz, ⟨oz, cz⟩, fz, hz⟩ := HG3.out.down true
                have HG5 : Hid (DoG w 2 nm tt dt fs true 0 p2 c2 Wz) := hz
                obtain ⟨⟨u0, u1, u2⟩, u3, u4, u5, u6⟩ := HG5.out.cells
                have HD : Hid (DoR fs false 0 2 nm tt dt = ⟨fs, true, 0, 12⟩) := by show _ = _; rw [HDF.out]; simp
                clear hz HG3 HO
                obtain ⟨Va, Vb, Vc, hVa, hVb, hVc, ⟨⟨pa, ka⟩, ga, ⟨pb, kb⟩, gb, ⟨pc, kc⟩, gc⟩, ⟨r0, r1, r2⟩, hdid⟩ := HG5.out.ret (e := 12) (by omega) HSM.out
                have HF : Hid (Did ⟨fs, true, 0, 12⟩ w (.returned (.tuple #[.agg #[.slice p2 fs.length c2, .bool true, .int .i64 (0)], .int .i64 (12)])) Vc) := hdid
                clear hdid 
                go_wp2_with fail
                exact bodyPost_ret (v := .tuple #[.agg #[.slice p2 fs.length c2, .bool true, .int .i64 (0)], .int .i64 (12)]) (by simp [results, Try.results11, go_sem, r0, r1, r2]) rfl (by rw [HD.out]; exact HF.out)
              · by_cases hf1 : 0 < fu
                · obtain ⟨fv, hfv⟩ : ∃ fv, fu - 1 = fv := ⟨_, rfl⟩
                  have qw : IntKind.i64.wrap (fu - 1) = fv := by rw [IntKind.wrap_i64]; omega
                  have HDG : Hid (DoR fs false fu 2 nm tt dt = ⟨chgF fs 2 nm tt dt, false, fv, 0⟩) := by show _ = _; rw [HDF.out, if_neg (by omega), if_neg hf0, if_pos hf1, if_neg hf0, hfv]
                  obtain ⟨Wz, hWz, ⟨oz, cz⟩, fz, hz⟩ := HG3.out.fuse fv
                  have HG5 : Hid (DoG w 2 nm tt dt fs false fv p2 c2 Wz) := hz
                  obtain ⟨⟨u0, u1, u2⟩, u3, u4, u5, u6⟩ := HG5.out.cells
                  have qf : (fu == 0) = false := by simpa using hf0
                  clear hz HG3 hfv HDF
                  have HFi : Hid (Calls Try.prog 26 #[.agg #[.slice p2 fs.length c2, .bool false, .int .i64 (fv)], .string nm] Wz fun e w' => ∃ k : Int, e = .returned (.int .i64 k) ∧ idx nm fs k ∧ Below Wz.heap.size Wz w') := refFind_any _ false (fv) nm fs Wz (HG5.out.2.2.2.2.files (by omega) HSM.out)
                  go_wp2_with fail
                  refine HFi.out.mono ?_
                  rintro e wf ⟨k, rfl, hix, hbf⟩
                  have HGf : Hid (DoG w 2 nm tt dt fs false (fv) p2 c2 wf) := HG5.out.below hbf
                  obtain ⟨⟨t0, t1, t2⟩, t3, t4, t5, t6⟩ := HGf.out.cells
                  clear hbf HFi HG5
                  rcases hix with ⟨hh, _⟩ | ⟨j, rfl, hj, hjn, hh, hfd⟩
                  · exact absurd (HHAS.out) (by rw [hh]; simp)
                  have HGd : Hid (DoG w 2 nm tt dt fs false (fv) p2 c2 wf.drew) := HGf.out.below ((Below.refl _ _).drew)
                  obtain ⟨⟨v0, v1, v2⟩, v3, v4, v5, v6⟩ := HGd.out.cells
                  obtain ⟨b, o, Wq, hp, ⟨k0, k1, k2⟩, fq, hWq, hlen, hGq⟩ := HGd.out.sync hj (fs[j].d.size : Int)
                  subst hp
                  have HGS0 : Hid (chgF fs 2 nm tt dt = fs.set j ⟨fs[j].n, fs[j].d, (fs[j].d.size : Int)⟩) := by
                    show _ = _
                    unfold chgF synF
                    rw [if_neg (by omega), if_pos rfl, hfd]
                    exact wi_set HO.out.2.1 hj _ _
                  have HSM0 : Hid (SmallF (fs.set j ⟨fs[j].n, fs[j].d, (fs[j].d.size : Int)⟩)) := by
                    intro f hf
                    rcases List.mem_or_eq_of_mem_set hf with hf | rfl
                    · exact HSM.out f hf
                    · exact ⟨(HSM.out _ (List.getElem_mem hj)).1, (HSM.out _ (List.getElem_mem hj)).2⟩
                  obtain ⟨ks, hks⟩ : ∃ ks, fs.set j ⟨fs[j].n, fs[j].d, (fs[j].d.size : Int)⟩ = ks := ⟨_, rfl⟩
                  rw [hks] at hlen hGq HGS0 HSM0
                  have hgl : ks.length ≤ fs.length := Nat.le_of_eq hlen
                  obtain ⟨⟨n, d, y⟩, hf⟩ : ∃ f, fs[j] = f := ⟨_, rfl⟩
                  rw [hf] at k0 k1 k2 hWq
                  simp only at k0 k1 k2 hWq
                  have z0 : (0 : Int) ≤ (j : Int) := by omega
                  have z1 : (j : Int) < (fs.length : Int) := by omega
                  clear hks HSM hf hfd hh hjn hlen
                  have HSM : Hid (SmallF ks) := HSM0.out
                  have HD : Hid (DoR fs false fu 2 nm tt dt = ⟨ks, false, fv, 0⟩) := by show _ = _; rw [HDG.out, HGS0.out]
                  have HG6 : Hid (DoG w 2 nm tt dt ks false (fv) (some ⟨b, o, none⟩) c2 Wq) := hGq
                  obtain ⟨⟨s0, s1, s2⟩, s3, s4, s5, s6⟩ := HG6.out.cells
                  clear HSM0 HGS0 HDG hGq HGf HGd HO
                  obtain ⟨Va, Vb, Vc, hVa, hVb, hVc, ⟨⟨pa, ka⟩, ga, ⟨pb, kb⟩, gb, ⟨pc, kc⟩, gc⟩, ⟨r0, r1, r2⟩, hdid⟩ := HG6.out.ret (e := 0) (by omega) HSM.out
                  have HF : Hid (Did ⟨ks, false, fv, 0⟩ w (.returned (.tuple #[.agg #[.slice (some ⟨b, o, none⟩) ks.length c2, .bool false, .int .i64 (fv)], .int .i64 (0)])) Vc) := hdid
                  clear hdid 
                  go_wp2_with fail
                  go_region_law (fail)
                  all_goals (try go_wp2_with fail)
                  all_goals exact bodyPost_ret (v := .tuple #[.agg #[.slice (some ⟨b, o, none⟩) ks.length c2, .bool false, .int .i64 (fv)], .int .i64 (0)]) (by simp [results, Try.results11, go_sem, r0, r1, r2]) rfl (by rw [HD.out]; exact HF.out)
                · have HDG : Hid (DoR fs false fu 2 nm tt dt = ⟨chgF fs 2 nm tt dt, false, fu, 0⟩) := by show _ = _; rw [HDF.out, if_neg (by omega), if_neg hf0, if_neg hf1, if_neg hf0]
                  have qf : (fu == 0) = false := by simpa using hf0
                  clear HDF
                  have HFi : Hid (Calls Try.prog 26 #[.agg #[.slice p2 fs.length c2, .bool false, .int .i64 (fu)], .string nm] w3 fun e w' => ∃ k : Int, e = .returned (.int .i64 k) ∧ idx nm fs k ∧ Below w3.heap.size w3 w') := refFind_any _ false (fu) nm fs w3 (HG3.out.2.2.2.2.files (by omega) HSM.out)
                  go_wp2_with fail
                  refine HFi.out.mono ?_
                  rintro e wf ⟨k, rfl, hix, hbf⟩
                  have HGf : Hid (DoG w 2 nm tt dt fs false (fu) p2 c2 wf) := HG3.out.below hbf
                  obtain ⟨⟨t0, t1, t2⟩, t3, t4, t5, t6⟩ := HGf.out.cells
                  clear hbf HFi HG3
                  rcases hix with ⟨hh, _⟩ | ⟨j, rfl, hj, hjn, hh, hfd⟩
                  · exact absurd (HHAS.out) (by rw [hh]; simp)
                  have HGd : Hid (DoG w 2 nm tt dt fs false (fu) p2 c2 wf.drew) := HGf.out.below ((Below.refl _ _).drew)
                  obtain ⟨⟨v0, v1, v2⟩, v3, v4, v5, v6⟩ := HGd.out.cells
                  obtain ⟨b, o, Wq, hp, ⟨k0, k1, k2⟩, fq, hWq, hlen, hGq⟩ := HGd.out.sync hj (fs[j].d.size : Int)
                  subst hp
                  have HGS0 : Hid (chgF fs 2 nm tt dt = fs.set j ⟨fs[j].n, fs[j].d, (fs[j].d.size : Int)⟩) := by
                    show _ = _
                    unfold chgF synF
                    rw [if_neg (by omega), if_pos rfl, hfd]
                    exact wi_set HO.out.2.1 hj _ _
                  have HSM0 : Hid (SmallF (fs.set j ⟨fs[j].n, fs[j].d, (fs[j].d.size : Int)⟩)) := by
                    intro f hf
                    rcases List.mem_or_eq_of_mem_set hf with hf | rfl
                    · exact HSM.out f hf
                    · exact ⟨(HSM.out _ (List.getElem_mem hj)).1, (HSM.out _ (List.getElem_mem hj)).2⟩
                  obtain ⟨ks, hks⟩ : ∃ ks, fs.set j ⟨fs[j].n, fs[j].d, (fs[j].d.size : Int)⟩ = ks := ⟨_, rfl⟩
                  rw [hks] at hlen hGq HGS0 HSM0
                  have hgl : ks.length ≤ fs.length := Nat.le_of_eq hlen
                  obtain ⟨⟨n, d, y⟩, hf⟩ : ∃ f, fs[j] = f := ⟨_, rfl⟩
                  rw [hf] at k0 k1 k2 hWq
                  simp only at k0 k1 k2 hWq
                  have z0 : (0 : Int) ≤ (j : Int) := by omega
                  have z1 : (j : Int) < (fs.length : Int) := by omega
                  clear hks HSM hf hfd hh hjn hlen
                  have HSM : Hid (SmallF ks) := HSM0.out
                  have HD : Hid (DoR fs false fu 2 nm tt dt = ⟨ks, false, fu, 0⟩) := by show _ = _; rw [HDG.out, HGS0.out]
                  have HG6 : Hid (DoG w 2 nm tt dt ks false (fu) (some ⟨b, o, none⟩) c2 Wq) := hGq
                  obtain ⟨⟨s0, s1, s2⟩, s3, s4, s5, s6⟩ := HG6.out.cells
                  clear HSM0 HGS0 HDG hGq HGf HGd HO
                  obtain ⟨Va, Vb, Vc, hVa, hVb, hVc, ⟨⟨pa, ka⟩, ga, ⟨pb, kb⟩, gb, ⟨pc, kc⟩, gc⟩, ⟨r0, r1, r2⟩, hdid⟩ := HG6.out.ret (e := 0) (by omega) HSM.out
                  have HF : Hid (Did ⟨ks, false, fu, 0⟩ w (.returned (.tuple #[.agg #[.slice (some ⟨b, o, none⟩) ks.length c2, .bool false, .int .i64 (fu)], .int .i64 (0)])) Vc) := hdid
                  clear hdid 
                  go_wp2_with fail
                  go_region_law (fail)
                  all_goals (try go_wp2_with fail)
                  all_goals exact bodyPost_ret (v := .tuple #[.agg #[.slice (some ⟨b, o, none⟩) ks.length c2, .bool false, .int .i64 (fu)], .int .i64 (0)]) (by simp [results, Try.results11, go_sem, r0, r1, r2]) rfl (by rw [HD.out]; exact HF.out)
            · by_cases hkk : kk = 3
              · subst hkk
                have HDF : Hid (DoR fs false fu 3 nm tt dt = ⟨if fu = 0 ∧ (3 : Int) ≠ 1 then fs else chgF fs 3 nm tt dt, if fu = 0 then true else false, if 0 < fu then fu - 1 else fu, if fu = 0 then 12 else 0⟩) := HDF0.out
                have HHAS : Hid (has nm fs = true) := by
                  show _ = _
                  cases hh : has nm fs with
                  | true => rfl
                  | false => unfold chgE synE movE at he; rw [hh] at he; simp at he
                by_cases hf0 : fu = 0
                · subst hf0
                  obtain ⟨Wz, hWz, ⟨oz, cz⟩, fz, hz⟩ := HG3.out.down true
                  have HG5 : Hid (DoG w 3 nm tt dt fs true 0 p2 c2 Wz) := hz
                  obtain ⟨⟨u0, u1, u2⟩, u3, u4, u5, u6⟩ := HG5.out.cells
                  have HD : Hid (DoR fs false 0 3 nm tt dt = ⟨fs, true, 0, 12⟩) := by show _ = _; rw [HDF.out]; simp
                  clear hz HG3 HO
                  obtain ⟨Va, Vb, Vc, hVa, hVb, hVc, ⟨⟨pa, ka⟩, ga, ⟨pb, kb⟩, gb, ⟨pc, kc⟩, gc⟩, ⟨r0, r1, r2⟩, hdid⟩ := HG5.out.ret (e := 12) (by omega) HSM.out
                  have HF : Hid (Did ⟨fs, true, 0, 12⟩ w (.returned (.tuple #[.agg #[.slice p2 fs.length c2, .bool true, .int .i64 (0)], .int .i64 (12)])) Vc) := hdid
                  clear hdid 
                  go_wp2_with fail
                  exact bodyPost_ret (v := .tuple #[.agg #[.slice p2 fs.length c2, .bool true, .int .i64 (0)], .int .i64 (12)]) (by simp [results, Try.results11, go_sem, r0, r1, r2]) rfl (by rw [HD.out]; exact HF.out)
                · by_cases hf1 : 0 < fu
                  · obtain ⟨fv, hfv⟩ : ∃ fv, fu - 1 = fv := ⟨_, rfl⟩
                    have qw : IntKind.i64.wrap (fu - 1) = fv := by rw [IntKind.wrap_i64]; omega
                    have HDG : Hid (DoR fs false fu 3 nm tt dt = ⟨chgF fs 3 nm tt dt, false, fv, 0⟩) := by show _ = _; rw [HDF.out, if_neg (by omega), if_neg hf0, if_pos hf1, if_neg hf0, hfv]
                    obtain ⟨Wz, hWz, ⟨oz, cz⟩, fz, hz⟩ := HG3.out.fuse fv
                    have HG5 : Hid (DoG w 3 nm tt dt fs false fv p2 c2 Wz) := hz
                    obtain ⟨⟨u0, u1, u2⟩, u3, u4, u5, u6⟩ := HG5.out.cells
                    have qf : (fu == 0) = false := by simpa using hf0
                    clear hz HG3 hfv HDF
                    have HFi : Hid (Calls Try.prog 26 #[.agg #[.slice p2 fs.length c2, .bool false, .int .i64 (fv)], .string nm] Wz fun e w' => ∃ k : Int, e = .returned (.int .i64 k) ∧ idx nm fs k ∧ Below Wz.heap.size Wz w') := refFind_any _ false (fv) nm fs Wz (HG5.out.2.2.2.2.files (by omega) HSM.out)
                    go_wp2_with fail
                    refine HFi.out.mono ?_
                    rintro e wf ⟨k, rfl, hix, hbf⟩
                    have HGf : Hid (DoG w 3 nm tt dt fs false (fv) p2 c2 wf) := HG5.out.below hbf
                    obtain ⟨⟨t0, t1, t2⟩, t3, t4, t5, t6⟩ := HGf.out.cells
                    clear hbf HFi HG5
                    rcases hix with ⟨hh, _⟩ | ⟨j, rfl, hj, hjn, hh, hfd⟩
                    · exact absurd (HHAS.out) (by rw [hh]; simp)
                    obtain ⟨b, o, Wq, hp, ⟨k0, k1, k2⟩, _, _, _, _⟩ := HGf.out.sync hj 0
                    subst hp
                    have hdz := (HSM.out _ (List.getElem_mem hj)).2
                    have HGS0 : Hid (chgF fs 3 nm tt dt = wi ⟨tt, fs[j].d, fs[j].y⟩ (wo nm fs)) := by
                      show _ = _
                      unfold chgF movF
                      rw [if_neg (by omega), if_neg (by omega), if_pos rfl, hfd]
                    obtain ⟨⟨n, d, y⟩, hf⟩ : ∃ f, fs[j] = f := ⟨_, rfl⟩
                    rw [hf] at k0 k1 k2 HGS0 hdz
                    simp only at k0 k1 k2 HGS0 hdz
                    have z0 : (0 : Int) ≤ (j : Int) := by omega
                    have z1 : (j : Int) < (fs.length : Int) := by omega
                    have hgl0 := wo_length nm fs
                    have HSL : Hid (SmallF (wo nm fs)) := wo_small HSM.out
                    have HUL : Hid (Up (wo nm fs)) := Up.wo HO.out.2.1 nm
                    obtain ⟨X1, hX1⟩ : ∃ X1, wf.alloc (.cells #[.string n, .string d, .int .i64 y] 41) = X1 := ⟨_, rfl⟩
                    have hb1 : Below wf.heap.size wf X1 := by rw [← hX1]; exact one_below _ _
                    have hbx : X1.heap[wf.heap.size]? = some (.cells #[.string n, .string d, .int .i64 y] 41 (0, 0)) := by rw [← hX1]; exact heap_alloc_new wf _
                    obtain ⟨_, m3, m4, m5, m6⟩ := (HGf.out.below hb1).cells
                    obtain ⟨⟨ox, cx⟩, fx, hgx, hblx⟩ := setT_row hbx (k := 0) (by simp) (.string tt)
                    obtain ⟨X2, hX2⟩ : ∃ X2, X1.setCell ⟨wf.heap.size, 0, none⟩ (.string tt) = X2 := ⟨_, rfl⟩
                    rw [hX2] at hgx hblx
                    have hbX : Below wf.heap.size wf X2 := hblx _ _ hb1 (Nat.le_refl _)
                    have hxl : wf.heap.size < X2.heap.size := (Array.getElem?_eq_some_iff.1 hgx).1
                    have HGd : Hid (DoG w 3 nm tt dt fs false (fv) (some ⟨b, o, none⟩) c2 X2.drew) := (HGf.out.below hbX).below ((Below.refl _ _).drew)
                    have HXA : Hid (∀ W, Below X2.drew.heap.size X2.drew W → W.cell? ⟨wf.heap.size, 0, none⟩ = some (.string tt) ∧ W.cell? ⟨wf.heap.size, 1, none⟩ = some (.string d) ∧ W.cell? ⟨wf.heap.size, 2, none⟩ = some (.int .i64 y)) := fun W hb => by
                      have hw : W.heap[wf.heap.size]? = some (.cells #[.string tt, .string d, .int .i64 y] 41 (0, 0)) := by rw [hb.block _ hxl]; exact hgx
                      exact ⟨cell_of_row (k := 0) hw rfl, cell_of_row (k := 1) hw rfl, cell_of_row (k := 2) hw rfl⟩
                    obtain ⟨xa0, xa1, xa2⟩ := HXA.out X2.drew (Below.refl _ _)
                    obtain ⟨⟨v0, v1, v2⟩, v3, v4, v5, v6⟩ := HGd.out.cells
                    have C6 : Hid (Calls Try.prog 27 #[.agg #[.slice (some ⟨b, o, none⟩) fs.length c2, .bool false, .int .i64 (fv)], .string nm] X2.drew fun e w' => Was (wo nm fs) false (fv) X2.drew e w') := refWithout_any _ false (fv) nm fs X2.drew (HGd.out.2.2.2.2.files (by omega) HSM.out)
                    obtain ⟨ls, hls⟩ : ∃ ls, wo nm fs = ls := ⟨_, rfl⟩
                    rw [hls] at C6 hgl0 HSL HUL HGS0
                    have hgl := wi_length ⟨tt, d, y⟩ ls
                    have HC7 : Hid (∀ wa pa ca, OwnF (X2.drew.heap.size + 2) wa (.slice pa ls.length ca) ls → Calls Try.prog 25 #[.agg #[.slice pa ls.length ca, .bool false, .int .i64 (fv)], .agg #[.string tt, .string d, .int .i64 y]] wa fun e w' => Was (wi ⟨tt, d, y⟩ ls) false (fv) wa e w') := fun wa pa ca ho => refWith_any _ false (fv) tt d y ls wa (ho.files (by omega) HSL.out) HUL.out (by omega)
                    have HSM0 : Hid (SmallF (wi ⟨tt, d, y⟩ ls)) := insK_small (wo_small HSL.out) ⟨h2, hdz⟩
                    obtain ⟨ks, hks⟩ : ∃ ks, wi ⟨tt, d, y⟩ ls = ks := ⟨_, rfl⟩
                    rw [hks] at HC7 hgl HSM0 HGS0
                    clear hks HSM hf hfd hh hjn hls hb1 hbx hgx hblx hbX hxl HSL HUL
                    have HSM : Hid (SmallF ks) := HSM0.out
                    have HD : Hid (DoR fs false fu 3 nm tt dt = ⟨ks, false, fv, 0⟩) := by show _ = _; rw [HDG.out, HGS0.out]
                    clear HSM0 HGS0 HDG HGf HO
                    go_wp2_with fail
                    go_region_law ((first
                      | (go_simp; go_at_call 27; refine C6.out.mono ?_; rintro e wa ⟨pl, cl, rfl, hoa, hba⟩; obtain ⟨xb0, xb1, xb2⟩ := HXA.out wa hba; have C7 := HC7.out wa pl cl hoa)
                      | (go_simp; go_at_call 25; refine C7.mono ?_; rintro e wb ⟨p6, c6, rfl, ho6, hb6⟩; obtain ⟨Xa, Xb, Xc, hXa, hXb, hXc, ⟨⟨oa', ca'⟩, fa', ⟨ob', cb'⟩, fb', ⟨oc', cc'⟩, fc'⟩, hG6⟩ := HGd.out.put (dn' := false) (fu' := fv) (hba.trans (hb6.mono hba.size)) (by have := hba.size; omega) ho6; obtain ⟨⟨s0, s1, s2⟩, s3, s4, s5, s6⟩ := hG6.cells; obtain ⟨Va, Vb, Vc, hVa, hVb, hVc, ⟨⟨pa, ka⟩, ga, ⟨pb, kb⟩, gb, ⟨pc, kc⟩, gc⟩, ⟨r0, r1, r2⟩, hdid⟩ := hG6.ret (e := 0) (by omega) HSM.out; have HF : Hid (Did ⟨ks, false, fv, 0⟩ w (.returned (.tuple #[.agg #[.slice p6 ks.length c6, .bool false, .int .i64 (fv)], .int .i64 0])) Vc) := hdid; clear hdid hG6 hb6 ho6 hba hoa)))
                    all_goals
                      try go_wp2_with fail
                      exact bodyPost_ret (v := .tuple #[.agg #[.slice p6 ks.length c6, .bool false, .int .i64 (fv)], .int .i64 0]) (by simp [results, Try.results11, go_sem, r0, r1, r2]) rfl (by rw [HD.out]; exact HF.out)
                  · have HDG : Hid (DoR fs false fu 3 nm tt dt = ⟨chgF fs 3 nm tt dt, false, fu, 0⟩) := by show _ = _; rw [HDF.out, if_neg (by omega), if_neg hf0, if_neg hf1, if_neg hf0]
                    have qf : (fu == 0) = false := by simpa using hf0
                    clear HDF
                    have HFi : Hid (Calls Try.prog 26 #[.agg #[.slice p2 fs.length c2, .bool false, .int .i64 (fu)], .string nm] w3 fun e w' => ∃ k : Int, e = .returned (.int .i64 k) ∧ idx nm fs k ∧ Below w3.heap.size w3 w') := refFind_any _ false (fu) nm fs w3 (HG3.out.2.2.2.2.files (by omega) HSM.out)
                    go_wp2_with fail
                    refine HFi.out.mono ?_
                    rintro e wf ⟨k, rfl, hix, hbf⟩
                    have HGf : Hid (DoG w 3 nm tt dt fs false (fu) p2 c2 wf) := HG3.out.below hbf
                    obtain ⟨⟨t0, t1, t2⟩, t3, t4, t5, t6⟩ := HGf.out.cells
                    clear hbf HFi HG3
                    rcases hix with ⟨hh, _⟩ | ⟨j, rfl, hj, hjn, hh, hfd⟩
                    · exact absurd (HHAS.out) (by rw [hh]; simp)
                    obtain ⟨b, o, Wq, hp, ⟨k0, k1, k2⟩, _, _, _, _⟩ := HGf.out.sync hj 0
                    subst hp
                    have hdz := (HSM.out _ (List.getElem_mem hj)).2
                    have HGS0 : Hid (chgF fs 3 nm tt dt = wi ⟨tt, fs[j].d, fs[j].y⟩ (wo nm fs)) := by
                      show _ = _
                      unfold chgF movF
                      rw [if_neg (by omega), if_neg (by omega), if_pos rfl, hfd]
                    obtain ⟨⟨n, d, y⟩, hf⟩ : ∃ f, fs[j] = f := ⟨_, rfl⟩
                    rw [hf] at k0 k1 k2 HGS0 hdz
                    simp only at k0 k1 k2 HGS0 hdz
                    have z0 : (0 : Int) ≤ (j : Int) := by omega
                    have z1 : (j : Int) < (fs.length : Int) := by omega
                    have hgl0 := wo_length nm fs
                    have HSL : Hid (SmallF (wo nm fs)) := wo_small HSM.out
                    have HUL : Hid (Up (wo nm fs)) := Up.wo HO.out.2.1 nm
                    obtain ⟨X1, hX1⟩ : ∃ X1, wf.alloc (.cells #[.string n, .string d, .int .i64 y] 41) = X1 := ⟨_, rfl⟩
                    have hb1 : Below wf.heap.size wf X1 := by rw [← hX1]; exact one_below _ _
                    have hbx : X1.heap[wf.heap.size]? = some (.cells #[.string n, .string d, .int .i64 y] 41 (0, 0)) := by rw [← hX1]; exact heap_alloc_new wf _
                    obtain ⟨_, m3, m4, m5, m6⟩ := (HGf.out.below hb1).cells
                    obtain ⟨⟨ox, cx⟩, fx, hgx, hblx⟩ := setT_row hbx (k := 0) (by simp) (.string tt)
                    obtain ⟨X2, hX2⟩ : ∃ X2, X1.setCell ⟨wf.heap.size, 0, none⟩ (.string tt) = X2 := ⟨_, rfl⟩
                    rw [hX2] at hgx hblx
                    have hbX : Below wf.heap.size wf X2 := hblx _ _ hb1 (Nat.le_refl _)
                    have hxl : wf.heap.size < X2.heap.size := (Array.getElem?_eq_some_iff.1 hgx).1
                    have HGd : Hid (DoG w 3 nm tt dt fs false (fu) (some ⟨b, o, none⟩) c2 X2.drew) := (HGf.out.below hbX).below ((Below.refl _ _).drew)
                    have HXA : Hid (∀ W, Below X2.drew.heap.size X2.drew W → W.cell? ⟨wf.heap.size, 0, none⟩ = some (.string tt) ∧ W.cell? ⟨wf.heap.size, 1, none⟩ = some (.string d) ∧ W.cell? ⟨wf.heap.size, 2, none⟩ = some (.int .i64 y)) := fun W hb => by
                      have hw : W.heap[wf.heap.size]? = some (.cells #[.string tt, .string d, .int .i64 y] 41 (0, 0)) := by rw [hb.block _ hxl]; exact hgx
                      exact ⟨cell_of_row (k := 0) hw rfl, cell_of_row (k := 1) hw rfl, cell_of_row (k := 2) hw rfl⟩
                    obtain ⟨xa0, xa1, xa2⟩ := HXA.out X2.drew (Below.refl _ _)
                    obtain ⟨⟨v0, v1, v2⟩, v3, v4, v5, v6⟩ := HGd.out.cells
                    have C6 : Hid (Calls Try.prog 27 #[.agg #[.slice (some ⟨b, o, none⟩) fs.length c2, .bool false, .int .i64 (fu)], .string nm] X2.drew fun e w' => Was (wo nm fs) false (fu) X2.drew e w') := refWithout_any _ false (fu) nm fs X2.drew (HGd.out.2.2.2.2.files (by omega) HSM.out)
                    obtain ⟨ls, hls⟩ : ∃ ls, wo nm fs = ls := ⟨_, rfl⟩
                    rw [hls] at C6 hgl0 HSL HUL HGS0
                    have hgl := wi_length ⟨tt, d, y⟩ ls
                    have HC7 : Hid (∀ wa pa ca, OwnF (X2.drew.heap.size + 2) wa (.slice pa ls.length ca) ls → Calls Try.prog 25 #[.agg #[.slice pa ls.length ca, .bool false, .int .i64 (fu)], .agg #[.string tt, .string d, .int .i64 y]] wa fun e w' => Was (wi ⟨tt, d, y⟩ ls) false (fu) wa e w') := fun wa pa ca ho => refWith_any _ false (fu) tt d y ls wa (ho.files (by omega) HSL.out) HUL.out (by omega)
                    have HSM0 : Hid (SmallF (wi ⟨tt, d, y⟩ ls)) := insK_small (wo_small HSL.out) ⟨h2, hdz⟩
                    obtain ⟨ks, hks⟩ : ∃ ks, wi ⟨tt, d, y⟩ ls = ks := ⟨_, rfl⟩
                    rw [hks] at HC7 hgl HSM0 HGS0
                    clear hks HSM hf hfd hh hjn hls hb1 hbx hgx hblx hbX hxl HSL HUL
                    have HSM : Hid (SmallF ks) := HSM0.out
                    have HD : Hid (DoR fs false fu 3 nm tt dt = ⟨ks, false, fu, 0⟩) := by show _ = _; rw [HDG.out, HGS0.out]
                    clear HSM0 HGS0 HDG HGf HO
                    go_wp2_with fail
                    go_region_law ((first
                      | (go_simp; go_at_call 27; refine C6.out.mono ?_; rintro e wa ⟨pl, cl, rfl, hoa, hba⟩; obtain ⟨xb0, xb1, xb2⟩ := HXA.out wa hba; have C7 := HC7.out wa pl cl hoa)
                      | (go_simp; go_at_call 25; refine C7.mono ?_; rintro e wb ⟨p6, c6, rfl, ho6, hb6⟩; obtain ⟨Xa, Xb, Xc, hXa, hXb, hXc, ⟨⟨oa', ca'⟩, fa', ⟨ob', cb'⟩, fb', ⟨oc', cc'⟩, fc'⟩, hG6⟩ := HGd.out.put (dn' := false) (fu' := fu) (hba.trans (hb6.mono hba.size)) (by have := hba.size; omega) ho6; obtain ⟨⟨s0, s1, s2⟩, s3, s4, s5, s6⟩ := hG6.cells; obtain ⟨Va, Vb, Vc, hVa, hVb, hVc, ⟨⟨pa, ka⟩, ga, ⟨pb, kb⟩, gb, ⟨pc, kc⟩, gc⟩, ⟨r0, r1, r2⟩, hdid⟩ := hG6.ret (e := 0) (by omega) HSM.out; have HF : Hid (Did ⟨ks, false, fu, 0⟩ w (.returned (.tuple #[.agg #[.slice p6 ks.length c6, .bool false, .int .i64 (fu)], .int .i64 0])) Vc) := hdid; clear hdid hG6 hb6 ho6 hba hoa)))
                    all_goals
                      try go_wp2_with fail
                      exact bodyPost_ret (v := .tuple #[.agg #[.slice p6 ks.length c6, .bool false, .int .i64 (fu)], .int .i64 0]) (by simp [results, Try.results11, go_sem, r0, r1, r2]) rfl (by rw [HD.out]; exact HF.out)
              · have hkk : kk = 4 := by omega
                subst hkk
                have HDF : Hid (DoR fs false fu 4 nm tt dt = ⟨if fu = 0 ∧ (4 : Int) ≠ 1 then fs else chgF fs 4 nm tt dt, if fu = 0 then true else false, if 0 < fu then fu - 1 else fu, if fu = 0 then 12 else 0⟩) := HDF0.out
                have HHAS : Hid (has nm fs = true) := by
                  show _ = _
                  cases hh : has nm fs with
                  | true => rfl
                  | false => unfold chgE synE movE at he; rw [hh] at he; simp at he
                by_cases hf0 : fu = 0
                · subst hf0
                  obtain ⟨Wz, hWz, ⟨oz, cz⟩, fz, hz⟩ := HG3.out.down true
                  have HG5 : Hid (DoG w 4 nm tt dt fs true 0 p2 c2 Wz) := hz
                  obtain ⟨⟨u0, u1, u2⟩, u3, u4, u5, u6⟩ := HG5.out.cells
                  have HD : Hid (DoR fs false 0 4 nm tt dt = ⟨fs, true, 0, 12⟩) := by show _ = _; rw [HDF.out]; simp
                  clear hz HG3 HO
                  obtain ⟨Va, Vb, Vc, hVa, hVb, hVc, ⟨⟨pa, ka⟩, ga, ⟨pb, kb⟩, gb, ⟨pc, kc⟩, gc⟩, ⟨r0, r1, r2⟩, hdid⟩ := HG5.out.ret (e := 12) (by omega) HSM.out
                  have HF : Hid (Did ⟨fs, true, 0, 12⟩ w (.returned (.tuple #[.agg #[.slice p2 fs.length c2, .bool true, .int .i64 (0)], .int .i64 (12)])) Vc) := hdid
                  clear hdid 
                  go_wp2_with fail
                  exact bodyPost_ret (v := .tuple #[.agg #[.slice p2 fs.length c2, .bool true, .int .i64 (0)], .int .i64 (12)]) (by simp [results, Try.results11, go_sem, r0, r1, r2]) rfl (by rw [HD.out]; exact HF.out)
                · by_cases hf1 : 0 < fu
                  · obtain ⟨fv, hfv⟩ : ∃ fv, fu - 1 = fv := ⟨_, rfl⟩
                    have qw : IntKind.i64.wrap (fu - 1) = fv := by rw [IntKind.wrap_i64]; omega
                    have HDG : Hid (DoR fs false fu 4 nm tt dt = ⟨chgF fs 4 nm tt dt, false, fv, 0⟩) := by show _ = _; rw [HDF.out, if_neg (by omega), if_neg hf0, if_pos hf1, if_neg hf0, hfv]
                    obtain ⟨Wz, hWz, ⟨oz, cz⟩, fz, hz⟩ := HG3.out.fuse fv
                    have HG5 : Hid (DoG w 4 nm tt dt fs false fv p2 c2 Wz) := hz
                    obtain ⟨⟨u0, u1, u2⟩, u3, u4, u5, u6⟩ := HG5.out.cells
                    have qf : (fu == 0) = false := by simpa using hf0
                    clear hz HG3 hfv HDF
                    have HFi : Hid (Calls Try.prog 26 #[.agg #[.slice p2 fs.length c2, .bool false, .int .i64 (fv)], .string nm] Wz fun e w' => ∃ k : Int, e = .returned (.int .i64 k) ∧ idx nm fs k ∧ Below Wz.heap.size Wz w') := refFind_any _ false (fv) nm fs Wz (HG5.out.2.2.2.2.files (by omega) HSM.out)
                    go_wp2_with fail
                    refine HFi.out.mono ?_
                    rintro e wf ⟨k, rfl, hix, hbf⟩
                    have HGf : Hid (DoG w 4 nm tt dt fs false (fv) p2 c2 wf) := HG5.out.below hbf
                    obtain ⟨⟨t0, t1, t2⟩, t3, t4, t5, t6⟩ := HGf.out.cells
                    clear hbf HFi HG5
                    have C6 : Hid (Calls Try.prog 27 #[.agg #[.slice p2 fs.length c2, .bool false, .int .i64 (fv)], .string nm] wf fun e w' => Was (wo nm fs) false (fv) wf e w') := refWithout_any _ false (fv) nm fs wf (HGf.out.2.2.2.2.files (by omega) HSM.out)
                    have hgl := wo_length nm fs
                    have HSM0 : Hid (SmallF (wo nm fs)) := wo_small HSM.out
                    have HGS0 : Hid (chgF fs 4 nm tt dt = wo nm fs) := by show _ = _; unfold chgF; simp
                    obtain ⟨ks, hks⟩ : ∃ ks, wo nm fs = ks := ⟨_, rfl⟩
                    rw [hks] at C6 hgl HSM0 HGS0
                    clear hks HSM hix
                    have HSM : Hid (SmallF ks) := HSM0.out
                    have HD : Hid (DoR fs false fu 4 nm tt dt = ⟨ks, false, fv, 0⟩) := by show _ = _; rw [HDG.out, HGS0.out]
                    clear HSM0 HGS0 HDG
                    go_wp2_with fail
                    refine C6.out.mono ?_
                    rintro e w6 ⟨p6, c6, rfl, ho6, hb6⟩
                    obtain ⟨Xa, Xb, Xc, hXa, hXb, hXc, ⟨⟨oa', ca'⟩, fa', ⟨ob', cb'⟩, fb', ⟨oc', cc'⟩, fc'⟩, hG6⟩ := HGf.out.put (dn' := false) (fu' := fv) hb6 (by omega) ho6
                    have HG6 : Hid (DoG w 4 nm tt dt ks false (fv) p6 c6 Xc) := hG6
                    obtain ⟨⟨s0, s1, s2⟩, s3, s4, s5, s6⟩ := HG6.out.cells
                    clear hG6 ho6 hb6 C6 HGf t0 t1 t2 t3 t4 t5 t6
                    obtain ⟨Va, Vb, Vc, hVa, hVb, hVc, ⟨⟨pa, ka⟩, ga, ⟨pb, kb⟩, gb, ⟨pc, kc⟩, gc⟩, ⟨r0, r1, r2⟩, hdid⟩ := HG6.out.ret (e := 0) (by omega) HSM.out
                    have HF : Hid (Did ⟨ks, false, fv, 0⟩ w (.returned (.tuple #[.agg #[.slice p6 ks.length c6, .bool false, .int .i64 (fv)], .int .i64 (0)])) Vc) := hdid
                    clear hdid 
                    go_wp2_with fail
                    exact bodyPost_ret (v := .tuple #[.agg #[.slice p6 ks.length c6, .bool false, .int .i64 (fv)], .int .i64 (0)]) (by simp [results, Try.results11, go_sem, r0, r1, r2]) rfl (by rw [HD.out]; exact HF.out)
                  · have HDG : Hid (DoR fs false fu 4 nm tt dt = ⟨chgF fs 4 nm tt dt, false, fu, 0⟩) := by show _ = _; rw [HDF.out, if_neg (by omega), if_neg hf0, if_neg hf1, if_neg hf0]
                    have qf : (fu == 0) = false := by simpa using hf0
                    clear HDF
                    have HFi : Hid (Calls Try.prog 26 #[.agg #[.slice p2 fs.length c2, .bool false, .int .i64 (fu)], .string nm] w3 fun e w' => ∃ k : Int, e = .returned (.int .i64 k) ∧ idx nm fs k ∧ Below w3.heap.size w3 w') := refFind_any _ false (fu) nm fs w3 (HG3.out.2.2.2.2.files (by omega) HSM.out)
                    go_wp2_with fail
                    refine HFi.out.mono ?_
                    rintro e wf ⟨k, rfl, hix, hbf⟩
                    have HGf : Hid (DoG w 4 nm tt dt fs false (fu) p2 c2 wf) := HG3.out.below hbf
                    obtain ⟨⟨t0, t1, t2⟩, t3, t4, t5, t6⟩ := HGf.out.cells
                    clear hbf HFi HG3
                    have C6 : Hid (Calls Try.prog 27 #[.agg #[.slice p2 fs.length c2, .bool false, .int .i64 (fu)], .string nm] wf fun e w' => Was (wo nm fs) false (fu) wf e w') := refWithout_any _ false (fu) nm fs wf (HGf.out.2.2.2.2.files (by omega) HSM.out)
                    have hgl := wo_length nm fs
                    have HSM0 : Hid (SmallF (wo nm fs)) := wo_small HSM.out
                    have HGS0 : Hid (chgF fs 4 nm tt dt = wo nm fs) := by show _ = _; unfold chgF; simp
                    obtain ⟨ks, hks⟩ : ∃ ks, wo nm fs = ks := ⟨_, rfl⟩
                    rw [hks] at C6 hgl HSM0 HGS0
                    clear hks HSM hix
                    have HSM : Hid (SmallF ks) := HSM0.out
                    have HD : Hid (DoR fs false fu 4 nm tt dt = ⟨ks, false, fu, 0⟩) := by show _ = _; rw [HDG.out, HGS0.out]
                    clear HSM0 HGS0 HDG
                    go_wp2_with fail
                    refine C6.out.mono ?_
                    rintro e w6 ⟨p6, c6, rfl, ho6, hb6⟩
                    obtain ⟨Xa, Xb, Xc, hXa, hXb, hXc, ⟨⟨oa', ca'⟩, fa', ⟨ob', cb'⟩, fb', ⟨oc', cc'⟩, fc'⟩, hG6⟩ := HGf.out.put (dn' := false) (fu' := fu) hb6 (by omega) ho6
                    have HG6 : Hid (DoG w 4 nm tt dt ks false (fu) p6 c6 Xc) := hG6
                    obtain ⟨⟨s0, s1, s2⟩, s3, s4, s5, s6⟩ := HG6.out.cells
                    clear hG6 ho6 hb6 C6 HGf t0 t1 t2 t3 t4 t5 t6
                    obtain ⟨Va, Vb, Vc, hVa, hVb, hVc, ⟨⟨pa, ka⟩, ga, ⟨pb, kb⟩, gb, ⟨pc, kc⟩, gc⟩, ⟨r0, r1, r2⟩, hdid⟩ := HG6.out.ret (e := 0) (by omega) HSM.out
                    have HF : Hid (Did ⟨ks, false, fu, 0⟩ w (.returned (.tuple #[.agg #[.slice p6 ks.length c6, .bool false, .int .i64 (fu)], .int .i64 (0)])) Vc) := hdid
                    clear hdid 
                    go_wp2_with fail
                    exact bodyPost_ret (v := .tuple #[.agg #[.slice p6 ks.length c6, .bool false, .int .i64 (fu)], .int .i64 (0)]) (by simp [results, Try.results11, go_sem, r0, r1, r2]) rfl (by rw [HD.out]; exact HF.out)
        · have HD : Hid (DoR fs false fu kk nm tt dt = ⟨fs, false, fu, chgE fs kk nm tt dt⟩) := by show _ = _; rw [HDR.out]; unfold doR; rw [if_neg (by omega), if_neg (by simp), if_pos he]
          obtain ⟨E, hE⟩ : ∃ E, chgE fs kk nm tt dt = E := ⟨_, rfl⟩
          rw [hE] at HD he
          rw [hE]
          have q3 : (E == 0) = false := by simpa using he
          have q4 : (E != 0) = true := by simpa using he
          clear hE
          obtain ⟨Va, Vb, Vc, hVa, hVb, hVc, ⟨⟨pa, ka⟩, ga, ⟨pb, kb⟩, gb, ⟨pc, kc⟩, gc⟩, ⟨r0, r1, r2⟩, hdid⟩ := HG3.out.ret (e := E) (by omega) HSM.out
          have HF : Hid (Did ⟨fs, false, fu, E⟩ w (.returned (.tuple #[.agg #[.slice p2 fs.length c2, .bool false, .int .i64 (fu)], .int .i64 (E)])) Vc) := hdid
          clear hdid HO hk1 hk2
          go_wp2_with fail
          exact bodyPost_ret (v := .tuple #[.agg #[.slice p2 fs.length c2, .bool false, .int .i64 (fu)], .int .i64 (E)]) (by simp [results, Try.results11, go_sem, r0, r1, r2]) rfl (by rw [HD.out]; exact HF.out)
    · have HD : Hid (DoR fs dn fu kk nm tt dt = ⟨fs, dn, fu, 5⟩) := by show _ = _; rw [HDR.out]; unfold doR; rw [if_pos hk]
      by_cases hk1 : kk < 1
      · clear hk
        obtain ⟨Va, Vb, Vc, hVa, hVb, hVc, ⟨⟨pa, ka⟩, ga, ⟨pb, kb⟩, gb, ⟨pc, kc⟩, gc⟩, ⟨r0, r1, r2⟩, hdid⟩ := HG.out.ret (e := 5) (by omega) HSM.out
        have HF : Hid (Did ⟨fs, dn, fu, 5⟩ w (.returned (.tuple #[.agg #[.slice p2 fs.length c2, .bool dn, .int .i64 (fu)], .int .i64 (5)])) Vc) := hdid
        clear hdid HO
        go_wp2_with fail
        exact bodyPost_ret (v := .tuple #[.agg #[.slice p2 fs.length c2, .bool dn, .int .i64 (fu)], .int .i64 (5)]) (by simp [results, Try.results11, go_sem, r0, r1, r2]) rfl (by rw [HD.out]; exact HF.out)
      · have q1 : 5 ≤ kk := by omega
        clear hk
        obtain ⟨Va, Vb, Vc, hVa, hVb, hVc, ⟨⟨pa, ka⟩, ga, ⟨pb, kb⟩, gb, ⟨pc, kc⟩, gc⟩, ⟨r0, r1, r2⟩, hdid⟩ := HG.out.ret (e := 5) (by omega) HSM.out
        have HF : Hid (Did ⟨fs, dn, fu, 5⟩ w (.returned (.tuple #[.agg #[.slice p2 fs.length c2, .bool dn, .int .i64 (fu)], .int .i64 (5)])) Vc) := hdid
        clear hdid HO
        go_wp2_with fail
        exact bodyPost_ret (v := .tuple #[.agg #[.slice p2 fs.length c2, .bool dn, .int .i64 (fu)], .int .i64 (5)]) (by simp [results, Try.results11, go_sem, r0, r1, r2]) rfl (by rw [HD.out]; exact HF.out)
  · have HD : Hid (DoR fs dn fu kk nm tt dt = ⟨[], false, 0, 6⟩) := by show _ = _; unfold DoR; rw [if_neg hok]
    have hch : chE fs = 6 := by unfold chE; rw [if_neg hok]
    rw [hch] at C1
    clear hch hx hb0 hs0 hok h1 h2 h3 hm hr C2
    go_enter Try.func11, Try.ntmps11
    go_wp2_with fail
    refine C1.out.mono ?_
    rintro e w1 ⟨rfl, hb1⟩
    obtain ⟨_, _, hg⟩ := HX.out w1 hb1
    obtain ⟨Wa, Wb, Wc, hWa, hWb, hWc, ⟨oa, ca⟩, fa, ⟨ob, cb⟩, fb, ⟨oc, cc⟩, fc, hbl, _, d0, d1, d2⟩ := set_disk hg (.slice none 0 0) (.bool false) (.int .i64 0)
    have HB : Hid (Below w.heap.size w Wc) := hbl _ _ (HB0.out.trans (hb1.mono HB0.out.size)) (by omega)
    clear hg hbl hb1 C1 x0 x1 x2 y0 y1 y2 y3
    go_wp2_with fail
    exact bodyPost_ret (v := .tuple #[.agg #[.slice none 0 0, .bool false, .int .i64 0], .int .i64 6]) (by simp [results, Try.results11, go_sem, d0, d1, d2]) rfl (by rw [HD.out]; exact ⟨none, 0, 0, rfl, ⟨none, 0, rfl, by simp, fun f hf => by simp at hf, fun h => by simp at h⟩, HB.out⟩)
end Go.Proofs.Ytedjfbkpebmggaa
