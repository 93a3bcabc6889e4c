/- The law DiskRefused returns true, of any disk, step and name. -/
import Derived.Test.YtedjfbkpebmggaaDx
namespace Go.Proofs.Ytedjfbkpebmggaa
open Go.Shelf Go.RowKit Go.Lib Go.Sort
set_option linter.unusedVariables false
set_option linter.unusedSimpArgs false
attribute [local go_sem ↓] Go.wp_at_zero Go.wp_at_succ
theorem lawbox (w : World) (v : Value) (dn : Bool) (fu kk : Int) (nm tt dt : ByteArray) : ∃ W0, (w.alloc (.cells #[v, .bool dn, .int .i64 fu] 24)).alloc (.cells #[.int .u8 kk, .string nm, .string tt, .string dt] 27) = W0 ∧ Below w.heap.size w W0 ∧ W0.heap.size = w.heap.size + 2 ∧
    (∀ W, Below W0.heap.size W0 W → (W.cell? ⟨w.heap.size, 0, none⟩ = some v ∧ W.cell? ⟨w.heap.size, 1, none⟩ = some (.bool dn) ∧ W.cell? ⟨w.heap.size, 2, none⟩ = some (.int .i64 fu)) ∧
      (W.cell? ⟨w.heap.size + 1, 0, none⟩ = some (.int .u8 kk) ∧ W.cell? ⟨w.heap.size + 1, 1, none⟩ = some (.string nm) ∧ W.cell? ⟨w.heap.size + 1, 2, none⟩ = some (.string tt) ∧ W.cell? ⟨w.heap.size + 1, 3, none⟩ = some (.string dt))) := by
  refine ⟨_, rfl, two_below _ _ _, by simp, fun W hb => ?_⟩
  have g0 : W.heap[w.heap.size]? = some (.cells #[v, .bool dn, .int .i64 fu] 24 (0, 0)) := by
    rw [hb.block _ (by simp; omega), heap_alloc_old _ _ (by simp)]; exact heap_alloc_new w _
  have g1 : W.heap[w.heap.size + 1]? = some (.cells #[.int .u8 kk, .string nm, .string tt, .string dt] 27 (0, 0)) := by
    rw [hb.block _ (by simp)]
    have := heap_alloc_new (w.alloc (.cells #[v, .bool dn, .int .i64 fu] 24)) (.cells #[.int .u8 kk, .string nm, .string tt, .string dt] 27)
    simpa using this
  exact ⟨⟨cell_of_row g0 rfl, cell_of_row g0 rfl, cell_of_row g0 rfl⟩, ⟨cell_of_row g1 rfl, cell_of_row g1 rfl, cell_of_row g1 rfl, cell_of_row g1 rfl⟩⟩
set_option maxRecDepth 100000 in
set_option maxHeartbeats 4000000 in
theorem refused_core (v : Value) (dn : Bool) (fu kk : Int) (nm tt dt ot : ByteArray) (fs : List DF) (w : World) (h : FsL w v fs) (hm : (fs.length + 1) * 40 ≤ 140737488355328) (hr : -9223372036854775808 ≤ fu ∧ fu ≤ 9223372036854775807)
    (h1 : nm.size ≤ 140737488355328) (h2 : tt.size ≤ 140737488355328) (h3 : dt.size ≤ 140737488355328) :
    Calls Try.prog 5 #[.agg #[v, .bool dn, .int .i64 fu], .agg #[.int .u8 kk, .string nm, .string tt, .string dt], .string ot] w fun e w' => e = .returned (.bool true) ∧ Below w.heap.size w w' := by
  obtain ⟨W0, hW0, hb0, hs0, hx⟩ := lawbox w v dn fu kk nm tt dt
  have HX : Hid _ := hx
  have HB0 : Hid (Below w.heap.size w W0) := hb0
  have CL : Hid (∀ W, Calls Try.prog 16 #[] W fun e w' => e = .returned (.bool true) ∧ Below W.heap.size W w') := lives_any
  have C1 : Hid (∀ W, Below w.heap.size w W → Calls Try.prog 10 #[.agg #[v, .bool dn, .int .i64 fu], .agg #[.int .u8 kk, .string nm, .string tt, .string dt]] W fun e w' => Did (DoR fs dn fu kk nm tt dt) W e w') := fun W hb => Do_any v dn fu kk nm tt dt fs W (h.below hb) hm hr h1 h2 h3
  have C2 : Hid (∀ W, Below w.heap.size w W → Calls Try.prog 18 #[.agg #[v, .bool dn, .int .i64 fu]] W fun e w' => e = .returned (.int .i64 (chE fs)) ∧ Below W.heap.size W w') := fun W hb => check_any v dn fu fs W (h.below hb)
  have CR : Hid (∀ W, Below w.heap.size w W → Calls Try.prog 12 #[.agg #[v, .bool dn, .int .i64 fu], .string ot] W fun e w' => e = .returned (.tuple #[.string (rdS fs dn ot), .int .i64 (rdE fs dn ot)]) ∧ Below W.heap.size W w') := fun W hb => Read_any v dn fu ot fs W (h.below hb)
  have HFL : Hid (FsL w v fs) := h
  obtain ⟨p, c, rfl, _⟩ := h
  clear hx hb0 hs0 h1 h2 h3 hm hr
  by_cases hok : okF fs = true
  · have hR : DoR fs dn fu kk nm tt dt = doR fs dn fu kk nm tt dt := by unfold DoR; rw [if_pos hok]
    have hO := okF_iff.1 hok
    have hch : chE fs = 0 := by unfold chE; rw [if_pos hok]
    have hways := doR_ways hO dn fu kk nm tt dt
    have hOR := hO.doR dn fu kk nm tt dt
    rw [hR] at C1
    rw [hch] at C2
    obtain ⟨R, hRR⟩ : ∃ R, doR fs dn fu kk nm tt dt = R := ⟨_, rfl⟩
    rw [hRR] at C1 hways hOR
    obtain ⟨rfs, rdn, rfu, re⟩ := R
    simp only at hways hOR
    clear hR hRR hch
    have HOK : Hid (okF fs = true ∧ okF rfs = true) := ⟨hok, okF_iff.2 hOR⟩
    have HUP : Hid (Up fs ∧ Up rfs) := ⟨hO.2.1, hOR.2.1⟩
    have CR2 : Hid (∀ p n c W, FsL W (.slice p n c) rfs → Calls Try.prog 12 #[.agg #[.slice p n c, .bool rdn, .int .i64 rfu], .string ot] W fun e w' => e = .returned (.tuple #[.string (rdS rfs rdn ot), .int .i64 (rdE rfs rdn ot)]) ∧ Below W.heap.size W w') := fun p n c W h => Read_any _ rdn rfu ot rfs W h
    have HW : Hid _ := hways
    clear hways hOR hO hok
    go_enter Try.func5, Try.ntmps5
    go_wp2_with fail
    refine (CL.out _).mono ?_
    rintro e w1 ⟨rfl, hb1⟩
    obtain ⟨⟨a0, a1, a2⟩, ⟨a3, a4, a5, a6⟩⟩ := HX.out w1 hb1
    have HB1 : Hid (Below W0.heap.size W0 w1) := hb1
    have CC := C1.out w1 (HB0.out.trans (hb1.mono HB0.out.size))
    clear hb1 C1
    go_wp2_with fail
    refine CC.mono ?_
    rintro e w2 ⟨p2, n2, c2, rfl, hl2, hb2⟩
    simp only at hl2
    obtain ⟨W3, hW3⟩ : ∃ W3, w2.alloc (.cells #[.slice p2 n2 c2, .bool rdn, .int .i64 rfu] 24) = W3 := ⟨_, rfl⟩
    have hb3 : Below w2.heap.size w2 W3 := by rw [← hW3]; exact one_below _ _
    have hg3 : W3.heap[w2.heap.size]? = some (.cells #[.slice p2 n2 c2, .bool rdn, .int .i64 rfu] 24 (0, 0)) := by rw [← hW3]; exact heap_alloc_new w2 _
    have hB3 : Below W0.heap.size W0 W3 := HB1.out.trans ((hb2.trans (hb3.mono hb2.size)).mono HB1.out.size)
    obtain ⟨⟨b0, b1, b2⟩, _⟩ := HX.out W3 hB3
    have HJ3 : Hid (W3.heap[w2.heap.size]? = some (.cells #[.slice p2 n2 c2, .bool rdn, .int .i64 rfu] 24 (0, 0)) ∧ FsL W3 (.slice p2 n2 c2) rfs ∧ Below W0.heap.size W0 W3) := ⟨hg3, hl2.below hb3, hB3⟩
    have CK := C2.out W3 (HB0.out.trans (hB3.mono HB0.out.size))
    clear hl2 hb2 hb3 hg3 CC a0 a1 a2 a3 a4 a5 a6 C2 hB3
    go_wp2_with fail
    refine CK.mono ?_
    rintro e w4 ⟨rfl, hb4⟩
    obtain ⟨j1, j2, j3⟩ := HJ3.out
    have hg4 : w4.heap[w2.heap.size]? = some (.cells #[.slice p2 n2 c2, .bool rdn, .int .i64 rfu] 24 (0, 0)) := by rw [hb4.block _ (Array.getElem?_eq_some_iff.1 j1).1]; exact j1
    have hl4 := j2.below hb4
    have hB4 : Below W0.heap.size W0 w4 := j3.trans (hb4.mono j3.size)
    obtain ⟨⟨b0, b1, b2⟩, ⟨b3, b4, b5, b6⟩⟩ := HX.out w4 hB4
    have d0 := cell_of_row (k := 0) hg4 rfl
    have d1 := cell_of_row (k := 1) hg4 rfl
    have d2 := cell_of_row (k := 2) hg4 rfl
    have HJ4 : Hid (w4.heap[w2.heap.size]? = some (.cells #[.slice p2 n2 c2, .bool rdn, .int .i64 rfu] 24 (0, 0)) ∧ FsL w4 (.slice p2 n2 c2) rfs ∧ Below W0.heap.size W0 w4) := ⟨hg4, hl4, hB4⟩
    clear j1 j2 j3 hb4 CK hg4 hB4 HJ3
    rcases HW.out with ⟨re0, dn0, rd0, ce0, rf0⟩ | ⟨re1, re2, rf0, rd0, ru0⟩ | ⟨re1, dn1, rf0, rd0, ru0⟩ | ⟨re1, dn0, rd1⟩
    · have HCE : Hid (chgE fs kk nm tt dt = 0 ∧ rfs = chgF fs kk nm tt dt) := ⟨ce0, rf0⟩
      subst re0 dn0 rd0
      clear ce0 rf0 hl4 HW
      have HBE : Hid (Below w.heap.size w w4) := by obtain ⟨_, _, m3⟩ := HJ4.out; exact HB0.out.trans (m3.mono HB0.out.size)
      by_cases x1 : ot = nm
      · have y1 : (ot.toList == nm.toList) = true := by rw [x1]; exact eq_self nm
        clear x1
        go_wp2_with fail
        go_ret
        exact ⟨rfl, by first | exact HBE.out⟩
      · have y1 : (ot.toList == nm.toList) = false := by
          cases e : (ot.toList == nm.toList) with
          | false => rfl
          | true => exact absurd (eqB_iff.1 e) x1
        by_cases x2 : kk = 3
        · have y2 : (kk == 3) = true := by rw [x2]; rfl
          by_cases x3 : ot = tt
          · have y3 : (ot.toList == tt.toList) = true := by rw [x3]; exact eq_self tt
            clear x1 x2 x3
            go_wp2_with fail
            go_ret
            exact ⟨rfl, by first | exact HBE.out⟩
          · have y3 : (ot.toList == tt.toList) = false := by
              cases e : (ot.toList == tt.toList) with
              | false => rfl
              | true => exact absurd (eqB_iff.1 e) x3
            have X2 : Hid (kk = 3 → ot ≠ tt) := fun _ => x3
            have X1 : Hid (ot ≠ nm) := x1
            clear x1 x2 x3
            have hrr : rdS rfs false ot = rdS fs false ot ∧ rdE rfs false ot = rdE fs false ot := by
              obtain ⟨k1, k2⟩ := HOK.out
              obtain ⟨e1, e2⟩ := same_named (nm := ot) HUP.out.2 HUP.out.1 (fun f hf => by rw [HCE.out.2]; exact (chg_others HCE.out.1 X1.out X2.out f hf).symm)
              unfold rdS rdE
              rw [k1, k2, e1, e2]
              exact ⟨rfl, rfl⟩
            obtain ⟨m1, m2, m3⟩ := HJ4.out
            have R1 := CR.out w4 (HB0.out.trans (m3.mono HB0.out.size))
            obtain ⟨sr, hsr⟩ : ∃ sr, rdS fs false ot = sr := ⟨_, rfl⟩
            obtain ⟨er, her⟩ : ∃ er, rdE fs false ot = er := ⟨_, rfl⟩
            rw [hsr, her] at R1 hrr
            have HRR : Hid (rdS rfs false ot = sr ∧ rdE rfs false ot = er) := hrr
            have es := eq_self sr
            have ee : (er == er) = true := by simp
            clear hrr hsr her m1 m2 m3
            go_wp2_with fail
            refine R1.mono ?_
            rintro e w7 ⟨rfl, hb7⟩
            obtain ⟨m1, m2, m3⟩ := HJ4.out
            have hg7 : w7.heap[w2.heap.size]? = some (.cells #[.slice p2 n2 c2, .bool false, .int .i64 rfu] 24 (0, 0)) := by rw [hb7.block _ (Array.getElem?_eq_some_iff.1 m1).1]; exact m1
            have f0 := cell_of_row (k := 0) hg7 rfl
            have f1 := cell_of_row (k := 1) hg7 rfl
            have f2 := cell_of_row (k := 2) hg7 rfl
            have R2 := CR2.out _ _ _ w7 (m2.below hb7)
            rw [HRR.out.1, HRR.out.2] at R2
            have HB7 : Hid (Below w.heap.size w w7) := HB0.out.trans ((m3.trans (hb7.mono m3.size)).mono HB0.out.size)
            clear m1 m2 m3 hb7 hg7 R1 d0 d1 d2
            go_wp2_with fail
            refine R2.mono ?_
            rintro e w8 ⟨rfl, hb8⟩
            have HB8 : Hid (Below w.heap.size w w8) := HB7.out.trans (hb8.mono HB7.out.size)
            clear hb8 R2
            go_wp2_with fail
            go_ret
            exact ⟨rfl, HB8.out⟩
        · have y2 : (kk == 3) = false := beq_eq_false_iff_ne.2 x2
          have X2 : Hid (kk = 3 → ot ≠ tt) := fun e => absurd e x2
          have X1 : Hid (ot ≠ nm) := x1
          clear x1 x2
          have hrr : rdS rfs false ot = rdS fs false ot ∧ rdE rfs false ot = rdE fs false ot := by
            obtain ⟨k1, k2⟩ := HOK.out
            obtain ⟨e1, e2⟩ := same_named (nm := ot) HUP.out.2 HUP.out.1 (fun f hf => by rw [HCE.out.2]; exact (chg_others HCE.out.1 X1.out X2.out f hf).symm)
            unfold rdS rdE
            rw [k1, k2, e1, e2]
            exact ⟨rfl, rfl⟩
          obtain ⟨m1, m2, m3⟩ := HJ4.out
          have R1 := CR.out w4 (HB0.out.trans (m3.mono HB0.out.size))
          obtain ⟨sr, hsr⟩ : ∃ sr, rdS fs false ot = sr := ⟨_, rfl⟩
          obtain ⟨er, her⟩ : ∃ er, rdE fs false ot = er := ⟨_, rfl⟩
          rw [hsr, her] at R1 hrr
          have HRR : Hid (rdS rfs false ot = sr ∧ rdE rfs false ot = er) := hrr
          have es := eq_self sr
          have ee : (er == er) = true := by simp
          clear hrr hsr her m1 m2 m3
          go_wp2_with fail
          refine R1.mono ?_
          rintro e w7 ⟨rfl, hb7⟩
          obtain ⟨m1, m2, m3⟩ := HJ4.out
          have hg7 : w7.heap[w2.heap.size]? = some (.cells #[.slice p2 n2 c2, .bool false, .int .i64 rfu] 24 (0, 0)) := by rw [hb7.block _ (Array.getElem?_eq_some_iff.1 m1).1]; exact m1
          have f0 := cell_of_row (k := 0) hg7 rfl
          have f1 := cell_of_row (k := 1) hg7 rfl
          have f2 := cell_of_row (k := 2) hg7 rfl
          have R2 := CR2.out _ _ _ w7 (m2.below hb7)
          rw [HRR.out.1, HRR.out.2] at R2
          have HB7 : Hid (Below w.heap.size w w7) := HB0.out.trans ((m3.trans (hb7.mono m3.size)).mono HB0.out.size)
          clear m1 m2 m3 hb7 hg7 R1 d0 d1 d2
          go_wp2_with fail
          refine R2.mono ?_
          rintro e w8 ⟨rfl, hb8⟩
          have HB8 : Hid (Below w.heap.size w w8) := HB7.out.trans (hb8.mono HB7.out.size)
          clear hb8 R2
          go_wp2_with fail
          go_ret
          exact ⟨rfl, HB8.out⟩
    · have z1 : (re != 0) = true := bne_iff_ne.2 re1
      have z2 : (re != 12) = true := bne_iff_ne.2 re2
      subst rf0 rd0 ru0
      obtain rfl := hl4.len
      have HSA : Hid (FsL w4 (.slice p rfs.length c) rfs) := HFL.out.below (HB0.out.trans (HJ4.out.2.2.mono HB0.out.size))
      clear re1 re2 HW
      have CE := Same_eq p p2 c c2 rdn rfu rfs w4 HSA.out hl4
      clear hl4
      go_wp2_with fail
      refine CE.mono ?_
      rintro e w5 ⟨rfl, hb5⟩
      obtain ⟨j1, j2, j3⟩ := HJ4.out
      have hg5 : w5.heap[w2.heap.size]? = some (.cells #[.slice p2 rfs.length c2, .bool rdn, .int .i64 rfu] 24 (0, 0)) := by rw [hb5.block _ (Array.getElem?_eq_some_iff.1 j1).1]; exact j1
      have hB5 : Below W0.heap.size W0 w5 := j3.trans (hb5.mono j3.size)
      have HJ5 : Hid (w5.heap[w2.heap.size]? = some (.cells #[.slice p2 rfs.length c2, .bool rdn, .int .i64 rfu] 24 (0, 0)) ∧ FsL w5 (.slice p2 rfs.length c2) rfs ∧ Below W0.heap.size W0 w5) := ⟨hg5, j2.below hb5, hB5⟩
      obtain ⟨⟨b0, b1, b2⟩, ⟨b3, b4, b5, b6⟩⟩ := HX.out w5 hB5
      have d0 := cell_of_row (k := 0) hg5 rfl
      have d1 := cell_of_row (k := 1) hg5 rfl
      have d2 := cell_of_row (k := 2) hg5 rfl
      clear j1 j2 j3 hb5 hg5 hB5 CE HJ4
      cases rdn
      · have HBE : Hid (Below w.heap.size w w5) := by obtain ⟨_, _, m3⟩ := HJ5.out; exact HB0.out.trans (m3.mono HB0.out.size)
        by_cases x1 : ot = nm
        · have y1 : (ot.toList == nm.toList) = true := by rw [x1]; exact eq_self nm
          clear x1
          go_wp2_with fail
          go_ret
          exact ⟨rfl, by first | exact HBE.out⟩
        · have y1 : (ot.toList == nm.toList) = false := by
            cases e : (ot.toList == nm.toList) with
            | false => rfl
            | true => exact absurd (eqB_iff.1 e) x1
          by_cases x2 : kk = 3
          · have y2 : (kk == 3) = true := by rw [x2]; rfl
            by_cases x3 : ot = tt
            · have y3 : (ot.toList == tt.toList) = true := by rw [x3]; exact eq_self tt
              clear x1 x2 x3
              go_wp2_with fail
              go_ret
              exact ⟨rfl, by first | exact HBE.out⟩
            · have y3 : (ot.toList == tt.toList) = false := by
                cases e : (ot.toList == tt.toList) with
                | false => rfl
                | true => exact absurd (eqB_iff.1 e) x3
              have X2 : Hid (kk = 3 → ot ≠ tt) := fun _ => x3
              have X1 : Hid (ot ≠ nm) := x1
              clear x1 x2 x3
              obtain ⟨m1, m2, m3⟩ := HJ5.out
              have R1 := CR.out w5 (HB0.out.trans (m3.mono HB0.out.size))
              obtain ⟨sr, hsr⟩ : ∃ sr, rdS rfs false ot = sr := ⟨_, rfl⟩
              obtain ⟨er, her⟩ : ∃ er, rdE rfs false ot = er := ⟨_, rfl⟩
              rw [hsr, her] at R1
              have HRR : Hid (rdS rfs false ot = sr ∧ rdE rfs false ot = er) := ⟨hsr, her⟩
              have es := eq_self sr
              have ee : (er == er) = true := by simp
              clear hsr her m1 m2 m3
              go_wp2_with fail
              refine R1.mono ?_
              rintro e w7 ⟨rfl, hb7⟩
              obtain ⟨m1, m2, m3⟩ := HJ5.out
              have hg7 : w7.heap[w2.heap.size]? = some (.cells #[.slice p2 rfs.length c2, .bool false, .int .i64 rfu] 24 (0, 0)) := by rw [hb7.block _ (Array.getElem?_eq_some_iff.1 m1).1]; exact m1
              have f0 := cell_of_row (k := 0) hg7 rfl
              have f1 := cell_of_row (k := 1) hg7 rfl
              have f2 := cell_of_row (k := 2) hg7 rfl
              have R2 := CR2.out _ _ _ w7 (m2.below hb7)
              rw [HRR.out.1, HRR.out.2] at R2
              have HB7 : Hid (Below w.heap.size w w7) := HB0.out.trans ((m3.trans (hb7.mono m3.size)).mono HB0.out.size)
              clear m1 m2 m3 hb7 hg7 R1 d0 d1 d2
              go_wp2_with fail
              refine R2.mono ?_
              rintro e w8 ⟨rfl, hb8⟩
              have HB8 : Hid (Below w.heap.size w w8) := HB7.out.trans (hb8.mono HB7.out.size)
              clear hb8 R2
              go_wp2_with fail
              go_ret
              exact ⟨rfl, HB8.out⟩
          · have y2 : (kk == 3) = false := beq_eq_false_iff_ne.2 x2
            have X2 : Hid (kk = 3 → ot ≠ tt) := fun e => absurd e x2
            have X1 : Hid (ot ≠ nm) := x1
            clear x1 x2
            obtain ⟨m1, m2, m3⟩ := HJ5.out
            have R1 := CR.out w5 (HB0.out.trans (m3.mono HB0.out.size))
            obtain ⟨sr, hsr⟩ : ∃ sr, rdS rfs false ot = sr := ⟨_, rfl⟩
            obtain ⟨er, her⟩ : ∃ er, rdE rfs false ot = er := ⟨_, rfl⟩
            rw [hsr, her] at R1
            have HRR : Hid (rdS rfs false ot = sr ∧ rdE rfs false ot = er) := ⟨hsr, her⟩
            have es := eq_self sr
            have ee : (er == er) = true := by simp
            clear hsr her m1 m2 m3
            go_wp2_with fail
            refine R1.mono ?_
            rintro e w7 ⟨rfl, hb7⟩
            obtain ⟨m1, m2, m3⟩ := HJ5.out
            have hg7 : w7.heap[w2.heap.size]? = some (.cells #[.slice p2 rfs.length c2, .bool false, .int .i64 rfu] 24 (0, 0)) := by rw [hb7.block _ (Array.getElem?_eq_some_iff.1 m1).1]; exact m1
            have f0 := cell_of_row (k := 0) hg7 rfl
            have f1 := cell_of_row (k := 1) hg7 rfl
            have f2 := cell_of_row (k := 2) hg7 rfl
            have R2 := CR2.out _ _ _ w7 (m2.below hb7)
            rw [HRR.out.1, HRR.out.2] at R2
            have HB7 : Hid (Below w.heap.size w w7) := HB0.out.trans ((m3.trans (hb7.mono m3.size)).mono HB0.out.size)
            clear m1 m2 m3 hb7 hg7 R1 d0 d1 d2
            go_wp2_with fail
            refine R2.mono ?_
            rintro e w8 ⟨rfl, hb8⟩
            have HB8 : Hid (Below w.heap.size w w8) := HB7.out.trans (hb8.mono HB7.out.size)
            clear hb8 R2
            go_wp2_with fail
            go_ret
            exact ⟨rfl, HB8.out⟩
      · have HBE : Hid (Below w.heap.size w w5) := by obtain ⟨_, _, m3⟩ := HJ5.out; exact HB0.out.trans (m3.mono HB0.out.size)
        by_cases x1 : ot = nm
        · have y1 : (ot.toList == nm.toList) = true := by rw [x1]; exact eq_self nm
          clear x1
          go_wp2_with fail
          go_ret
          exact ⟨rfl, by first | exact HBE.out⟩
        · have y1 : (ot.toList == nm.toList) = false := by
            cases e : (ot.toList == nm.toList) with
            | false => rfl
            | true => exact absurd (eqB_iff.1 e) x1
          by_cases x2 : kk = 3
          · have y2 : (kk == 3) = true := by rw [x2]; rfl
            by_cases x3 : ot = tt
            · have y3 : (ot.toList == tt.toList) = true := by rw [x3]; exact eq_self tt
              clear x1 x2 x3
              go_wp2_with fail
              go_ret
              exact ⟨rfl, by first | exact HBE.out⟩
            · have y3 : (ot.toList == tt.toList) = false := by
                cases e : (ot.toList == tt.toList) with
                | false => rfl
                | true => exact absurd (eqB_iff.1 e) x3
              have X2 : Hid (kk = 3 → ot ≠ tt) := fun _ => x3
              have X1 : Hid (ot ≠ nm) := x1
              clear x1 x2 x3
              go_wp2_with fail
              go_ret
              exact ⟨rfl, by first | exact HBE.out⟩
          · have y2 : (kk == 3) = false := beq_eq_false_iff_ne.2 x2
            have X2 : Hid (kk = 3 → ot ≠ tt) := fun e => absurd e x2
            have X1 : Hid (ot ≠ nm) := x1
            clear x1 x2
            go_wp2_with fail
            go_ret
            exact ⟨rfl, by first | exact HBE.out⟩
    · have z2 : ((12 : Int) != 12) = false := rfl
      subst rf0 rd0 ru0 re1
      obtain rfl := hl4.len
      have HSA : Hid (FsL w4 (.slice p rfs.length c) rfs) := HFL.out.below (HB0.out.trans (HJ4.out.2.2.mono HB0.out.size))
      subst dn1
      clear HW
      have CE := Same_eq p p2 c c2 true rfu rfs w4 HSA.out hl4
      clear hl4
      go_wp2_with fail
      refine CE.mono ?_
      rintro e w5 ⟨rfl, hb5⟩
      obtain ⟨j1, j2, j3⟩ := HJ4.out
      have hg5 : w5.heap[w2.heap.size]? = some (.cells #[.slice p2 rfs.length c2, .bool true, .int .i64 rfu] 24 (0, 0)) := by rw [hb5.block _ (Array.getElem?_eq_some_iff.1 j1).1]; exact j1
      have hB5 : Below W0.heap.size W0 w5 := j3.trans (hb5.mono j3.size)
      have HJ5 : Hid (w5.heap[w2.heap.size]? = some (.cells #[.slice p2 rfs.length c2, .bool true, .int .i64 rfu] 24 (0, 0)) ∧ FsL w5 (.slice p2 rfs.length c2) rfs ∧ Below W0.heap.size W0 w5) := ⟨hg5, j2.below hb5, hB5⟩
      obtain ⟨⟨b0, b1, b2⟩, ⟨b3, b4, b5, b6⟩⟩ := HX.out w5 hB5
      have d0 := cell_of_row (k := 0) hg5 rfl
      have d1 := cell_of_row (k := 1) hg5 rfl
      have d2 := cell_of_row (k := 2) hg5 rfl
      clear j1 j2 j3 hb5 hg5 hB5 CE HJ4
      have HBE : Hid (Below w.heap.size w w5) := by obtain ⟨_, _, m3⟩ := HJ5.out; exact HB0.out.trans (m3.mono HB0.out.size)
      by_cases x1 : ot = nm
      · have y1 : (ot.toList == nm.toList) = true := by rw [x1]; exact eq_self nm
        clear x1
        go_wp2_with fail
        go_ret
        exact ⟨rfl, by first | exact HBE.out⟩
      · have y1 : (ot.toList == nm.toList) = false := by
          cases e : (ot.toList == nm.toList) with
          | false => rfl
          | true => exact absurd (eqB_iff.1 e) x1
        by_cases x2 : kk = 3
        · have y2 : (kk == 3) = true := by rw [x2]; rfl
          by_cases x3 : ot = tt
          · have y3 : (ot.toList == tt.toList) = true := by rw [x3]; exact eq_self tt
            clear x1 x2 x3
            go_wp2_with fail
            go_ret
            exact ⟨rfl, by first | exact HBE.out⟩
          · have y3 : (ot.toList == tt.toList) = false := by
              cases e : (ot.toList == tt.toList) with
              | false => rfl
              | true => exact absurd (eqB_iff.1 e) x3
            have X2 : Hid (kk = 3 → ot ≠ tt) := fun _ => x3
            have X1 : Hid (ot ≠ nm) := x1
            clear x1 x2 x3
            go_wp2_with fail
            go_ret
            exact ⟨rfl, by first | exact HBE.out⟩
        · have y2 : (kk == 3) = false := beq_eq_false_iff_ne.2 x2
          have X2 : Hid (kk = 3 → ot ≠ tt) := fun e => absurd e x2
          have X1 : Hid (ot ≠ nm) := x1
          clear x1 x2
          go_wp2_with fail
          go_ret
          exact ⟨rfl, by first | exact HBE.out⟩
    · subst re1 dn0 rd1
      clear HW hl4
      have HBE : Hid (Below w.heap.size w w4) := by obtain ⟨_, _, m3⟩ := HJ4.out; exact HB0.out.trans (m3.mono HB0.out.size)
      by_cases x1 : ot = nm
      · have y1 : (ot.toList == nm.toList) = true := by rw [x1]; exact eq_self nm
        clear x1
        go_wp2_with fail
        go_ret
        exact ⟨rfl, by first | exact HBE.out⟩
      · have y1 : (ot.toList == nm.toList) = false := by
          cases e : (ot.toList == nm.toList) with
          | false => rfl
          | true => exact absurd (eqB_iff.1 e) x1
        by_cases x2 : kk = 3
        · have y2 : (kk == 3) = true := by rw [x2]; rfl
          by_cases x3 : ot = tt
          · have y3 : (ot.toList == tt.toList) = true := by rw [x3]; exact eq_self tt
            clear x1 x2 x3
            go_wp2_with fail
            go_ret
            exact ⟨rfl, by first | exact HBE.out⟩
          · have y3 : (ot.toList == tt.toList) = false := by
              cases e : (ot.toList == tt.toList) with
              | false => rfl
              | true => exact absurd (eqB_iff.1 e) x3
            have X2 : Hid (kk = 3 → ot ≠ tt) := fun _ => x3
            have X1 : Hid (ot ≠ nm) := x1
            clear x1 x2 x3
            go_wp2_with fail
            go_ret
            exact ⟨rfl, by first | exact HBE.out⟩
        · have y2 : (kk == 3) = false := beq_eq_false_iff_ne.2 x2
          have X2 : Hid (kk = 3 → ot ≠ tt) := fun e => absurd e x2
          have X1 : Hid (ot ≠ nm) := x1
          clear x1 x2
          go_wp2_with fail
          go_ret
          exact ⟨rfl, by first | exact HBE.out⟩
  · have hR : DoR fs dn fu kk nm tt dt = ⟨[], false, 0, 6⟩ := by unfold DoR; rw [if_neg hok]
    have hch : chE fs = 6 := by unfold chE; rw [if_neg hok]
    rw [hR] at C1
    rw [hch] at C2
    clear hR hch hok
    go_enter Try.func5, Try.ntmps5
    go_wp2_with fail
    refine (CL.out _).mono ?_
    rintro e w1 ⟨rfl, hb1⟩
    obtain ⟨⟨a0, a1, a2⟩, ⟨a3, a4, a5, a6⟩⟩ := HX.out w1 hb1
    have HB1 : Hid (Below W0.heap.size W0 w1) := hb1
    have CC := C1.out w1 (HB0.out.trans (hb1.mono HB0.out.size))
    clear hb1 C1
    go_wp2_with fail
    refine CC.mono ?_
    rintro e w2 ⟨p2, n2, c2, rfl, hl2, hb2⟩
    have hn2 := hl2.len
    simp only [List.length_nil] at hn2
    subst hn2
    obtain ⟨W3, hW3⟩ : ∃ W3, w2.alloc (.cells #[.slice p2 0 c2, .bool false, .int .i64 0] 24) = W3 := ⟨_, rfl⟩
    have hb3 : Below w2.heap.size w2 W3 := by rw [← hW3]; exact one_below _ _
    have hg3 : W3.heap[w2.heap.size]? = some (.cells #[.slice p2 0 c2, .bool false, .int .i64 0] 24 (0, 0)) := by rw [← hW3]; exact heap_alloc_new w2 _
    have hB3 : Below W0.heap.size W0 W3 := HB1.out.trans ((hb2.trans (hb3.mono hb2.size)).mono HB1.out.size)
    obtain ⟨⟨b0, b1, b2⟩, _⟩ := HX.out W3 hB3
    have s1 : W3.setCell ⟨w2.heap.size, 1, none⟩ (.bool false) = W3 := setCell_self hg3 rfl
    have s2 : W3.setCell ⟨w2.heap.size, 2, none⟩ (.int .i64 0) = W3 := setCell_self hg3 rfl
    have z1 := frozen_zero hg3 1
    have z2 := frozen_zero hg3 2
    have d1 := cell_of_row (k := 1) hg3 rfl
    have d2 := cell_of_row (k := 2) hg3 rfl
    have HJ3 : Hid (W3.heap[w2.heap.size]? = some (.cells #[.slice p2 0 c2, .bool false, .int .i64 0] 24 (0, 0)) ∧ FsL W3 (.slice p2 0 c2) [] ∧ Below W0.heap.size W0 W3) := ⟨hg3, hl2.below hb3, hB3⟩
    have CK := C2.out W3 (HB0.out.trans (hB3.mono HB0.out.size))
    clear hl2 hb2 hb3 hg3 CC a0 a1 a2 a3 a4 a5 a6 C2 hB3
    go_wp2_with fail
    refine CK.mono ?_
    rintro e w4 ⟨rfl, hb4⟩
    obtain ⟨j1, j2, j3⟩ := HJ3.out
    have hg4 : w4.heap[w2.heap.size]? = some (.cells #[.slice p2 0 c2, .bool false, .int .i64 0] 24 (0, 0)) := by rw [hb4.block _ (Array.getElem?_eq_some_iff.1 j1).1]; exact j1
    have CE := Same_eq p2 none c2 0 false 0 [] w4 (j2.below hb4) ⟨none, 0, rfl, by simp, fun f hf => by simp at hf, fun h => by simp at h⟩
    simp only [List.length_nil] at CE
    have e0 := cell_of_row (k := 0) hg4 rfl
    have e1 := cell_of_row (k := 1) hg4 rfl
    have e2 := cell_of_row (k := 2) hg4 rfl
    have HB4 : Hid (Below w.heap.size w w4) := HB0.out.trans ((j3.trans (hb4.mono j3.size)).mono HB0.out.size)
    clear j1 j2 j3 hb4 hg4 CK HJ3 s1 s2 z1 z2 d1 d2 b0 b1 b2
    go_wp2_with fail
    refine CE.mono ?_
    rintro e w5 ⟨rfl, hb5⟩
    have HB5 : Hid (Below w.heap.size w w5) := HB4.out.trans (hb5.mono HB4.out.size)
    clear hb5 CE
    go_wp2_with fail
    go_ret
    exact ⟨rfl, HB5.out⟩
end Go.Proofs.Ytedjfbkpebmggaa
