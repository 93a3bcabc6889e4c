/- The reference: whether a batch came already, or cannot be. -/
import Derived.Test.YtcmiphgeakdonaaDd
namespace Go.Proofs.Ytcmiphgeakdonaa
open Go.Shelf Go.RowKit Go.Lib Go.Sort
set_option linter.unusedVariables false
set_option linter.unusedSimpArgs false
attribute [local go_sem ↓] Go.wp_at_zero Go.wp_at_succ
set_option maxRecDepth 100000 in
set_option maxHeartbeats 4000000 in
theorem refTwice_any (cs cl : List Value) (x : In_) (y : Ms) (K : Nat → Prop) (w : World) (h : rIn K w cs x) (h' : rMs K w cl y) (hK : ∀ b, K b → b < w.heap.size) :
    Calls Try.prog 41 #[.agg cs.toArray, .agg cl.toArray] w fun e w' => e = .returned (.bool (x.h.any (isS y.s) || (x.d || decide (y.s < x.n)))) ∧ Below w.heap.size w w' := by
  obtain ⟨q, c, q2, c2, rfl, hok, hn64, hl, hcap, hby, hl2, hcap2, hby2⟩ := in_cells2 h
  obtain ⟨hlen, k0, k2, k3, k4, k5, k6, k37, k38, ⟨qm, cm, k39, hlm⟩, hs64, _⟩ := id h'
  obtain ⟨W0, hW0, hb0, hs0, g0, g1⟩ := two_boxes2 w #[.int .u64 (x.m.qb : Int), .int .u64 (x.m.qn : Int), .int .i64 x.m.at_, .int .i64 x.m.fr, .int .i64 x.m.tq, .int .u64 (x.n : Int), .slice q x.h.length c, .slice q2 x.r.length c2, .bool x.d] cl.toArray 68 62
  have HV : Hid (∀ V, Below W0.heap.size W0 V → V.cell? ⟨w.heap.size + 1, 37, none⟩ = some (.int .u64 (y.s : Int)) ∧ V.cell? ⟨w.heap.size + 1, 38, none⟩ = some (.bool y.l) ∧ V.cell? ⟨w.heap.size, 5, none⟩ = some (.int .u64 (x.n : Int)) ∧ V.cell? ⟨w.heap.size, 6, none⟩ = some (.slice q x.h.length c) ∧ V.cell? ⟨w.heap.size, 8, none⟩ = some (.bool x.d) ∧ Below w.heap.size w V ∧ ListIs rBat 3 40 K V (.slice q x.h.length c) x.h) := fun V hb => ⟨(hb.cell (p := ⟨w.heap.size + 1, 37, none⟩) (by show w.heap.size + 1 < _; omega)).trans (cell_of_row (k := 37) g1 (by simpa using k37)), (hb.cell (p := ⟨w.heap.size + 1, 38, none⟩) (by show w.heap.size + 1 < _; omega)).trans (cell_of_row (k := 38) g1 (by simpa using k38)), (hb.cell (p := ⟨w.heap.size, 5, none⟩) (by show w.heap.size < _; omega)).trans (cell_of_row (k := 5) g0 rfl), (hb.cell (p := ⟨w.heap.size, 6, none⟩) (by show w.heap.size < _; omega)).trans (cell_of_row (k := 6) g0 rfl), (hb.cell (p := ⟨w.heap.size, 8, none⟩) (by show w.heap.size < _; omega)).trans (cell_of_row (k := 8) g0 rfl), hb0.trans (hb.mono hb0.size), hl.mono mBat (fun _ h => h) (kept_of hK (hb0.trans (hb.mono hb0.size)))⟩
  have hx63 : x.h.length ≤ 3518437208883 := by omega
  obtain ⟨R, hR⟩ : ∃ R, (x.h.any (isS y.s) || (x.d || decide (y.s < x.n))) = R := ⟨_, rfl⟩
  have HRR : Hid ((x.h.any (isS y.s) || (x.d || decide (y.s < x.n))) = R) := hR
  rw [hR]
  have HR : Hid ((x.h.take 0).any (isS y.s) = false) := rfl
  obtain ⟨m37, m38, i5, i6, i8, hbw, hlv⟩ := HV.out W0 (Below.refl _ _)
  clear h h' hK hl hcap hby hl2 hcap2 hby2 hok hlm hb0 hs0 g0 g1 hlen k0 k2 k3 k4 k5 k6 k37 k38 k39 hbw hlv hR
  go_enter Try.func41, Try.ntmps41
  go_wp2_with fail
  clear m37 m38 i5 i6 i8 hW0
  go_loopg [10] x.h.length (fun gf s10 wx => ∃ i : Nat, s10 = .int .i64 i ∧ i ≤ x.h.length ∧ x.h.length ≤ i + gf ∧ Hid (Below W0.heap.size W0 wx) ∧ Hid ((x.h.take i).any (isS y.s) = false))
  case atStart => exact ⟨0, rfl, by omega, by omega, Below.refl _ _, HR⟩
  case round =>
    clear HR
    obtain ⟨i, rfl, hi1, hgf, HB, HG⟩ := hrel
    obtain ⟨m37, m38, i5, i6, i8, hbw, hlv⟩ := HV.out wr HB.out
    by_cases hi : i < x.h.length
    · obtain ⟨g', rfl⟩ : ∃ g', gk = g' + 1 := ⟨gk - 1, by omega⟩
      obtain ⟨b, o, p, cc, rfl, hKb, e0, e1, e2, hsz, hrr⟩ := bat_at hlv i hi
      have htk : x.h.take (i + 1) = x.h.take i ++ [x.h[i]] := List.take_succ_eq_append_getElem hi
      have hmem : x.h[i] ∈ x.h := List.getElem_mem hi
      obtain ⟨z, hz⟩ : ∃ z, x.h[i] = z := ⟨_, rfl⟩
      rw [hz] at e0 e1 e2 hsz hrr htk hmem
      obtain ⟨zl, hzl⟩ : ∃ zl, z.l = zl := ⟨_, rfl⟩
      rw [hzl] at e1
      have HBN : Hid (Below W0.heap.size W0 (wr.alloc (.cells #[.int .u64 (z.s : Int), .bool zl, .slice p z.r.length cc] 91))) := HB.out.alloc HB.out.size _
      clear m37 m38 i5 i6 i8
      obtain ⟨m37, m38, i5, i6, i8, hbw2, _⟩ := HV.out _ HBN.out
      have HF : Hid (Below w.heap.size w (wr.alloc (.cells #[.int .u64 (z.s : Int), .bool zl, .slice p z.r.length cc] 91))) := hbw2
      have HYES : Hid ((isS y.s) z = true → R = true) := fun h => by rw [← HRR.out, List.any_eq_true.2 ⟨z, hmem, h⟩] <;> rfl
      have HNO : Hid ((isS y.s) z = false → (x.h.take (i + 1)).any (isS y.s) = false) := fun h => by rw [htk, List.any_append, HG.out]; simpa using h
      have z0 : (0 : Int) ≤ (i : Int) := by omega
      have z1 : (i : Int) < (x.h.length : Int) := by omega
      have HZL : Hid (z.l = zl) := hzl
      clear hrr hlv hbw hbw2 hKb hz htk hmem HG hzl
      by_cases h1 : z.s = y.s
      · have y1 : ((z.s : Int) == (y.s : Int)) = true := by simp; omega
        have HE : Hid (R = true) := HYES.out (by unfold isS; exact decide_eq_true h1)
        clear HYES HNO HZL h1
        go_wp2_with fail
        go_ret
        exact ⟨by rw [HE.out]; rfl, HF.out⟩
      · have y1 : ((z.s : Int) == (y.s : Int)) = false := beq_eq_false_iff_ne.2 (by omega)
        have HG2 := hid (HNO.out (by unfold isS; exact decide_eq_false h1))
        clear HYES HNO HZL h1
        go_wp2_with fail
        go_roundg g'
        case measure => omega
        case rel => exact ⟨i + 1, by go_num, by omega, by omega, HBN, HG2⟩
    · have z1 : ¬ (i : Int) < (x.h.length : Int) := by omega
      have HA : Hid (x.h.any (isS y.s) = false) := by have := HG.out; rwa [List.take_of_length_le (by omega)] at this
      have HF : Hid (Below w.heap.size w wr) := hbw
      clear HG hbw hlv
      obtain ⟨d, hd⟩ : ∃ d, x.d = d := ⟨_, rfl⟩
      have HD : Hid (x.d = d) := hd
      rw [hd] at i8
      rw [hd]
      clear hd
      cases d with
      | true =>
        have HE : Hid (R = true) := by show _ = _; rw [← HRR.out, HA.out, HD.out]; rfl
        go_wp2_with fail
        go_ret
        exact ⟨by rw [HE.out]; rfl, HF.out⟩
      | false =>
        by_cases h1 : y.s < x.n
        · have y1 : (y.s : Int) < (x.n : Int) := by omega
          have HE : Hid (R = true) := by show _ = _; rw [← HRR.out, HA.out, HD.out, decide_eq_true h1]; rfl
          go_wp2_with fail
          go_ret
          exact ⟨by rw [HE.out]; rfl, HF.out⟩
        · have y1 : ¬ (y.s : Int) < (x.n : Int) := by omega
          have HE : Hid (R = false) := by show _ = _; rw [← HRR.out, HA.out, HD.out, decide_eq_false h1]; rfl
          go_wp2_with fail
          go_ret
          exact ⟨by rw [HE.out]; rfl, HF.out⟩
set_option maxRecDepth 100000 in
set_option maxHeartbeats 4000000 in
theorem refStale_any (cs cl : List Value) (x : In_) (y : Ms) (K : Nat → Prop) (w : World) (h : rIn K w cs x) (h' : rMs K w cl y) (hK : ∀ b, K b → b < w.heap.size) :
    Calls Try.prog 42 #[.agg cs.toArray, .agg cl.toArray] w fun e w' => e = .returned (.bool (x.h.any (overS y.s y.l))) ∧ Below w.heap.size w w' := by
  obtain ⟨q, c, q2, c2, rfl, hok, hn64, hl, hcap, hby, hl2, hcap2, hby2⟩ := in_cells2 h
  obtain ⟨hlen, k0, k2, k3, k4, k5, k6, k37, k38, ⟨qm, cm, k39, hlm⟩, hs64, _⟩ := id h'
  obtain ⟨W0, hW0, hb0, hs0, g0, g1⟩ := two_boxes2 w #[.int .u64 (x.m.qb : Int), .int .u64 (x.m.qn : Int), .int .i64 x.m.at_, .int .i64 x.m.fr, .int .i64 x.m.tq, .int .u64 (x.n : Int), .slice q x.h.length c, .slice q2 x.r.length c2, .bool x.d] cl.toArray 68 62
  have HV : Hid (∀ V, Below W0.heap.size W0 V → V.cell? ⟨w.heap.size + 1, 37, none⟩ = some (.int .u64 (y.s : Int)) ∧ V.cell? ⟨w.heap.size + 1, 38, none⟩ = some (.bool y.l) ∧ V.cell? ⟨w.heap.size, 5, none⟩ = some (.int .u64 (x.n : Int)) ∧ V.cell? ⟨w.heap.size, 6, none⟩ = some (.slice q x.h.length c) ∧ V.cell? ⟨w.heap.size, 8, none⟩ = some (.bool x.d) ∧ Below w.heap.size w V ∧ ListIs rBat 3 40 K V (.slice q x.h.length c) x.h) := fun V hb => ⟨(hb.cell (p := ⟨w.heap.size + 1, 37, none⟩) (by show w.heap.size + 1 < _; omega)).trans (cell_of_row (k := 37) g1 (by simpa using k37)), (hb.cell (p := ⟨w.heap.size + 1, 38, none⟩) (by show w.heap.size + 1 < _; omega)).trans (cell_of_row (k := 38) g1 (by simpa using k38)), (hb.cell (p := ⟨w.heap.size, 5, none⟩) (by show w.heap.size < _; omega)).trans (cell_of_row (k := 5) g0 rfl), (hb.cell (p := ⟨w.heap.size, 6, none⟩) (by show w.heap.size < _; omega)).trans (cell_of_row (k := 6) g0 rfl), (hb.cell (p := ⟨w.heap.size, 8, none⟩) (by show w.heap.size < _; omega)).trans (cell_of_row (k := 8) g0 rfl), hb0.trans (hb.mono hb0.size), hl.mono mBat (fun _ h => h) (kept_of hK (hb0.trans (hb.mono hb0.size)))⟩
  have hx63 : x.h.length ≤ 3518437208883 := by omega
  obtain ⟨R, hR⟩ : ∃ R, (x.h.any (overS y.s y.l)) = R := ⟨_, rfl⟩
  have HRR : Hid ((x.h.any (overS y.s y.l)) = R) := hR
  rw [hR]
  have HR : Hid ((x.h.take 0).any (overS y.s y.l) = false) := rfl
  obtain ⟨m37, m38, i5, i6, i8, hbw, hlv⟩ := HV.out W0 (Below.refl _ _)
  clear h h' hK hl hcap hby hl2 hcap2 hby2 hok hlm hb0 hs0 g0 g1 hlen k0 k2 k3 k4 k5 k6 k37 k38 k39 hbw hlv hR
  go_enter Try.func42, Try.ntmps42
  go_wp2_with fail
  clear m37 m38 i5 i6 i8 hW0
  go_loopg [10] x.h.length (fun gf s10 wx => ∃ i : Nat, s10 = .int .i64 i ∧ i ≤ x.h.length ∧ x.h.length ≤ i + gf ∧ Hid (Below W0.heap.size W0 wx) ∧ Hid ((x.h.take i).any (overS y.s y.l) = false))
  case atStart => exact ⟨0, rfl, by omega, by omega, Below.refl _ _, HR⟩
  case round =>
    clear HR
    obtain ⟨i, rfl, hi1, hgf, HB, HG⟩ := hrel
    obtain ⟨m37, m38, i5, i6, i8, hbw, hlv⟩ := HV.out wr HB.out
    by_cases hi : i < x.h.length
    · obtain ⟨g', rfl⟩ : ∃ g', gk = g' + 1 := ⟨gk - 1, by omega⟩
      obtain ⟨b, o, p, cc, rfl, hKb, e0, e1, e2, hsz, hrr⟩ := bat_at hlv i hi
      have htk : x.h.take (i + 1) = x.h.take i ++ [x.h[i]] := List.take_succ_eq_append_getElem hi
      have hmem : x.h[i] ∈ x.h := List.getElem_mem hi
      obtain ⟨z, hz⟩ : ∃ z, x.h[i] = z := ⟨_, rfl⟩
      rw [hz] at e0 e1 e2 hsz hrr htk hmem
      obtain ⟨zl, hzl⟩ : ∃ zl, z.l = zl := ⟨_, rfl⟩
      rw [hzl] at e1
      have HBN : Hid (Below W0.heap.size W0 (wr.alloc (.cells #[.int .u64 (z.s : Int), .bool zl, .slice p z.r.length cc] 91))) := HB.out.alloc HB.out.size _
      clear m37 m38 i5 i6 i8
      obtain ⟨m37, m38, i5, i6, i8, hbw2, _⟩ := HV.out _ HBN.out
      have HF : Hid (Below w.heap.size w (wr.alloc (.cells #[.int .u64 (z.s : Int), .bool zl, .slice p z.r.length cc] 91))) := hbw2
      have HYES : Hid ((overS y.s y.l) z = true → R = true) := fun h => by rw [← HRR.out, List.any_eq_true.2 ⟨z, hmem, h⟩] <;> rfl
      have HNO : Hid ((overS y.s y.l) z = false → (x.h.take (i + 1)).any (overS y.s y.l) = false) := fun h => by rw [htk, List.any_append, HG.out]; simpa using h
      have z0 : (0 : Int) ≤ (i : Int) := by omega
      have z1 : (i : Int) < (x.h.length : Int) := by omega
      have HZL : Hid (z.l = zl) := hzl
      clear hrr hlv hbw hbw2 hKb hz htk hmem HG hzl
      cases zl with
      | true =>
        by_cases h1 : z.s < y.s
        · have y1 : (z.s : Int) < (y.s : Int) := by omega
          have y1d : decide (z.s < y.s) = true := decide_eq_true h1
          have y1e : decide ((z.s : Int) < (y.s : Int)) = true := decide_eq_true y1
          have HE : Hid (R = true) := HYES.out (by unfold overS; rw [HZL.out]; simp; omega)
          clear HYES HNO HZL
          go_wp2_with fail
          go_ret
          exact ⟨by rw [HE.out]; rfl, HF.out⟩
        · have y1 : ¬ (z.s : Int) < (y.s : Int) := by omega
          have y1d : decide (z.s < y.s) = false := decide_eq_false h1
          have y1e : decide ((z.s : Int) < (y.s : Int)) = false := decide_eq_false y1
          obtain ⟨l, hl⟩ : ∃ l, y.l = l := ⟨_, rfl⟩
          have HYL : Hid (y.l = l) := hl
          rw [hl] at m38
          clear hl
          cases l with
          | true =>
            by_cases h2 : y.s < z.s
            · have y2 : (y.s : Int) < (z.s : Int) := by omega
              have y2d : decide (y.s < z.s) = true := decide_eq_true h2
              have y2e : decide ((y.s : Int) < (z.s : Int)) = true := decide_eq_true y2
              have HE : Hid (R = true) := HYES.out (by unfold overS; rw [HZL.out, HYL.out]; simp; omega)
              clear HYES HNO HZL
              go_wp2_with fail
              go_ret
              exact ⟨by rw [HE.out]; rfl, HF.out⟩
            · have y2 : ¬ (y.s : Int) < (z.s : Int) := by omega
              have y2d : decide (y.s < z.s) = false := decide_eq_false h2
              have y2e : decide ((y.s : Int) < (z.s : Int)) = false := decide_eq_false y2
              have HG2 := hid (HNO.out (by unfold overS; rw [HZL.out, HYL.out]; simp; omega))
              clear HYES HNO HZL
              go_wp2_with fail
              go_roundg g'
              case measure => omega
              case rel => exact ⟨i + 1, by go_num, by omega, by omega, HBN, HG2⟩
          | false =>
            have HG2 := hid (HNO.out (by unfold overS; rw [HZL.out, HYL.out]; simp; omega))
            clear HYES HNO HZL
            go_wp2_with fail
            go_roundg g'
            case measure => omega
            case rel => exact ⟨i + 1, by go_num, by omega, by omega, HBN, HG2⟩
      | false =>
        obtain ⟨l, hl⟩ : ∃ l, y.l = l := ⟨_, rfl⟩
        have HYL : Hid (y.l = l) := hl
        rw [hl] at m38
        clear hl
        cases l with
        | true =>
          by_cases h2 : y.s < z.s
          · have y2 : (y.s : Int) < (z.s : Int) := by omega
            have y2d : decide (y.s < z.s) = true := decide_eq_true h2
            have y2e : decide ((y.s : Int) < (z.s : Int)) = true := decide_eq_true y2
            have HE : Hid (R = true) := HYES.out (by unfold overS; rw [HZL.out, HYL.out]; simp; omega)
            clear HYES HNO HZL
            go_wp2_with fail
            go_ret
            exact ⟨by rw [HE.out]; rfl, HF.out⟩
          · have y2 : ¬ (y.s : Int) < (z.s : Int) := by omega
            have y2d : decide (y.s < z.s) = false := decide_eq_false h2
            have y2e : decide ((y.s : Int) < (z.s : Int)) = false := decide_eq_false y2
            have HG2 := hid (HNO.out (by unfold overS; rw [HZL.out, HYL.out]; simp; omega))
            clear HYES HNO HZL
            go_wp2_with fail
            go_roundg g'
            case measure => omega
            case rel => exact ⟨i + 1, by go_num, by omega, by omega, HBN, HG2⟩
        | false =>
          have HG2 := hid (HNO.out (by unfold overS; rw [HZL.out, HYL.out]; simp))
          clear HYES HNO HZL
          go_wp2_with fail
          go_roundg g'
          case measure => omega
          case rel => exact ⟨i + 1, by go_num, by omega, by omega, HBN, HG2⟩
    · have z1 : ¬ (i : Int) < (x.h.length : Int) := by omega
      have HA : Hid (x.h.any (overS y.s y.l) = false) := by have := HG.out; rwa [List.take_of_length_le (by omega)] at this
      have HF : Hid (Below w.heap.size w wr) := hbw
      clear HG hbw hlv
      have HE : Hid (R = false) := by show _ = _; rw [← HRR.out, HA.out]
      go_wp2_with fail
      go_ret
      exact ⟨by rw [HE.out]; rfl, HF.out⟩
set_option maxRecDepth 100000 in
set_option maxHeartbeats 1000000 in
theorem refAck_any (cs : List Value) (x : In_) (K : Nat → Prop) (w : World) (h : rIn K w cs x) :
    Calls Try.prog 24 #[.agg cs.toArray] w fun e w' => e = .returned (.agg (mgC 5 x.m x.n false (.slice none 0 0)).toArray) ∧ Below w.heap.size w w' := by
  obtain ⟨v, u, rfl, hok⟩ := in_cells h
  clear h hok
  obtain ⟨W0, hW0, hb0, hs0, g0, g1⟩ := two_boxes2 w #[.int .u64 (x.m.qb : Int), .int .u64 (x.m.qn : Int), .int .i64 x.m.at_, .int .i64 x.m.fr, .int .i64 x.m.tq, .int .u64 (x.n : Int), v, u, .bool x.d] zM 68 62
  obtain ⟨cl, hcl⟩ : ∃ cl, mgC 5 x.m x.n false (.slice none 0 0) = cl := ⟨_, rfl⟩
  have hlen : cl.length = 47 := by rw [← hcl]; rfl
  have HON : Hid (cl.toArray.all (·.oneCell') = true) := by show _ = _; rw [← hcl]; exact mgC_one 5 x.m x.n false none 0 0
  have HBD : Hid ((Instr.build 62 #[(0, .int .u8 5), (2, .agg #[.int .u64 (x.m.qb : Int), .int .u64 (x.m.qn : Int), .int .i64 x.m.at_, .int .i64 x.m.fr, .int .i64 x.m.tq]), (7, .int .u64 (x.n : Int))]).run Try.prog W0 = .ok (.agg cl.toArray) W0) := by
    show _ = _
    rw [← hcl]
    exact run_build W0 62 _ _ (ack_built x.m x.n)
  obtain ⟨hth, X, hX, hld, hsX, hkX⟩ := put_row W0 (w.heap.size + 1) _ 62 g1 cl (by rw [hlen]; rfl) Try.underlying62 rfl (by rw [hlen]; exact sz_Msg)
  have HSZ : Hid ((Try.prog.info? 62).map (·.size) = some cl.toArray.size) := by show _ = _; rw [List.size_toArray, hlen]; exact sz_Msg
  have HTZ : Hid (W0.there (w.heap.size + 1) 0 cl.toArray.size) := hth
  have HWX : Hid (W0.setCells (w.heap.size + 1) 0 cl = X) := hX
  have HLD : Hid ((loadVar 62 ⟨w.heap.size + 1, 0, none⟩).run Try.prog X = .ok (.agg cl.toArray) X) := hld
  have HFX : Hid (Below w.heap.size w X) := ⟨hkX.os.trans hb0.os, hkX.tape.trans hb0.tape, hkX.output.trans hb0.output, by have := hb0.size; omega, fun b hb => (hkX.block b (by show b ≠ _; omega)).trans (hb0.block b hb)⟩
  have a5 := cell_of_row (k := 5) (v := .int .u64 (x.n : Int)) g0 rfl
  have HR : Hid (W0.rangeAt w.heap.size 0 [.int .u64 (x.m.qb : Int), .int .u64 (x.m.qn : Int), .int .i64 x.m.at_, .int .i64 x.m.fr, .int .i64 x.m.tq]) := fun j u hu => by
    rw [Nat.zero_add]
    refine cell_of_row g0 ?_
    match j, hu with
    | 0, hu => exact hu
    | 1, hu => exact hu
    | 2, hu => exact hu
    | 3, hu => exact hu
    | 4, hu => exact hu
  have HCL : Hid (mgC 5 x.m x.n false (.slice none 0 0) = cl) := hcl
  have HW0 : Hid ((w.alloc (.cells #[.int .u64 (x.m.qb : Int), .int .u64 (x.m.qn : Int), .int .i64 x.m.at_, .int .i64 x.m.fr, .int .i64 x.m.tq, .int .u64 (x.n : Int), v, u, .bool x.d] 68)).alloc (.cells zM 62) = W0) := hW0
  clear hcl hlen hth hX hld hsX hkX g0 g1 hb0 hW0 hs0
  go_enter Try.func24, Try.ntmps24
  apply wp_seq_k
  intro K1 hK1
  refine wp_region_lit ?_
  iterate 3 go_step
  refine wpList_alloc_z rfl 62 rfl zM (zeroM _) ?_
  rw [HW0.out]
  iterate 9 go_step
  refine wpList_load_mid rfl 26 _ rfl w.heap.size 0 rfl _ _ HR.out Try.underlying26 rfl sz_Strm ?_
  iterate 6 go_step
  refine wpList_build3 rfl 62 0 2 7 _ _ _ rfl _ _ _ rfl rfl rfl _ HBD.out ?_
  refine wpList_store_mid rfl 62 _ _ rfl (w.heap.size + 1) 0 cl.toArray rfl rfl HTZ.out HSZ.out HON.out ?_
  rw [show W0.setCells (w.heap.size + 1) 0 cl.toArray.toList = X from HWX.out]
  go_wp2_with fail
  refine bodyPost_ret (v := .agg cl.toArray) (by simp only [results, Try.results24]; simp [asAddr, Act.put, HLD.out]) rfl ?_
  rw [HCL.out]
  exact ⟨rfl, HFX.out⟩
end Go.Proofs.Ytcmiphgeakdonaa
