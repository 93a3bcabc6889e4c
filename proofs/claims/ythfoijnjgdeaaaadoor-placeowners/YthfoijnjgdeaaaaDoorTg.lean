/- What CheckTable answers, in the program and in the reference. -/
import Derived.Test.YthfoijnjgdeaaaaDoorTdTeTf
namespace Go.Proofs.YthfoijnjgdeaaaaDoor
open Go.RowKit Go.Lib
set_option linter.unusedVariables false
attribute [local go_sem ↓] Go.wp_at_zero Go.wp_at_succ
/-- Rows, whatever their slice is. -/
def RowsA (w : World) (p : Option Addr) (rs : List (List Val)) : Prop :=
  rs.length ≤ 9223372036854775807 ∧ (0 < rs.length → ∃ b o, p = some ⟨b, o, none⟩ ∧ b < w.heap.size ∧ ∀ j (h : j < rs.length), ∃ q m d, w.cell? ⟨b, o + j, none⟩ = some (.slice q m d) ∧ RowA w (.slice q m d) rs[j])
/-- The first row that is none. -/
def rowsGo : List (List Val) → List Col → Int
  | [], _ => 0
  | r :: rs, cs => if rowV r cs = 0 then rowsGo rs cs else rowV r cs
theorem rowsGo_at (rs : List (List Val)) (cs : List Col) (i : Nat) (h : i < rs.length) : rowsGo (rs.drop i) cs = if rowV rs[i] cs = 0 then rowsGo (rs.drop (i + 1)) cs else rowV rs[i] cs := by
  rw [List.drop_eq_getElem_cons h]
  rfl
/-- Why a table is none. -/
def tableV (s : ByteArray) (cs : List Col) (rs : List (List Val)) : Int :=
  if nameV s = 0 then (if colsV cs = 0 then (if 64 < rs.length then 3 else rowsGo rs cs) else colsV cs) else nameV s
set_option maxRecDepth 100000 in
set_option maxHeartbeats 4000000 in
theorem table_core (s : ByteArray) (pc : Option Addr) (mc cc : Nat) (cs : List Col) (pr : Option Addr) (cr : Nat) (rs : List (List Val)) (w : World) (hs : s.size ≤ 9223372036854775807) (hT : Lib.Utf8Tabs 0 1 w) (hc : ColA w (.slice pc mc cc) cs) (hr : RowsA w pr rs)
    (R : Int) (HR : Hid (tableV s cs rs = R)) :
    Calls Tryd.prog 30 #[.agg #[.string s, .slice pc mc cc, .slice pr rs.length cr]] w fun e w' => e = .returned (.int .i64 R) ∧ Below w.heap.size w w' := by
  have CN : Hid (∀ W, Below w.heap.size w W → Calls Tryd.prog 48 #[.string s] W fun e w' => e = .returned (.int .i64 (nameV s)) ∧ Below W.heap.size W w') := fun W h => checkName_any s W hs (Utf8Tabs_below hT h)
  have CC : Hid (∀ W, Below w.heap.size w W → Calls Tryd.prog 49 #[.slice pc mc cc] W fun e w' => e = .returned (.int .i64 (colsV cs)) ∧ Below W.heap.size W w') := fun W h => cols_all (hc.below h) (Utf8Tabs_below hT h)
  have CR : Hid (∀ q m d xs W, RowA w (.slice q m d) xs → Below w.heap.size w W → Calls Tryd.prog 50 #[.slice q m d, .slice pc mc cc] W fun e w' => e = .returned (.int .i64 (rowV xs cs)) ∧ Below W.heap.size W w') := fun q m d xs W hx h => row_all (hx.below h) (hc.below h) (Utf8Tabs_below hT h)
  have HRA : Hid (RowsA w pr rs) := hr
  have hrl := hr.1
  clear hr hc hT hs
  obtain ⟨nv, hnv⟩ : ∃ x, nameV s = x := ⟨_, rfl⟩
  obtain ⟨cv, hcv⟩ : ∃ x, colsV cs = x := ⟨_, rfl⟩
  have hR0 := HR.out
  unfold tableV at hR0
  rw [hnv] at CN hR0
  rw [hcv] at CC hR0
  have HR0 : Hid ((if nv = 0 then (if cv = 0 then (if 64 < rs.length then 3 else rowsGo rs cs) else cv) else nv) = R) := hR0
  clear HR hR0 hnv hcv
  go_enter Tryd.func30, Tryd.ntmps30
  go_wp2_with fail
  refine (CN.out _ ((Below.refl _ _).alloc (Nat.le_refl _) _)).mono ?_
  rintro e w1 ⟨rfl, hb1⟩
  have z1 : w1.cell? ⟨w.heap.size, 1, none⟩ = some (.slice pc mc cc) := by rw [hb1.cell (by simp)]; simp
  have z2 : w1.cell? ⟨w.heap.size, 2, none⟩ = some (.slice pr rs.length cr) := by rw [hb1.cell (by simp)]; simp
  have hs1 : w.heap.size + 1 ≤ w1.heap.size := by have := hb1.size; simpa using this
  have hbw1 : Below w.heap.size w w1 := ((Below.refl _ _).alloc (Nat.le_refl _) _).trans (hb1.mono (by simp))
  have HB1 : Hid (Below w.heap.size w w1) := hbw1
  clear hb1 CN hbw1
  by_cases hn : nv = 0
  · subst hn
    have HR1 : Hid ((if cv = 0 then (if 64 < rs.length then 3 else rowsGo rs cs) else cv) = R) := by have := HR0.out; rwa [if_pos rfl] at this
    clear HR0
    have hl1 : w.heap.size < w1.heap.size := by omega
    go_wp2_with fail
    refine (CC.out _ HB1.out).mono ?_
    rintro e w2 ⟨rfl, hb2⟩
    have y1 : w2.cell? ⟨w.heap.size, 1, none⟩ = some (.slice pc mc cc) := by rw [hb2.cell (by simp; omega)]; exact z1
    have y2 : w2.cell? ⟨w.heap.size, 2, none⟩ = some (.slice pr rs.length cr) := by rw [hb2.cell (by simp; omega)]; exact z2
    have hs2 : w.heap.size + 1 ≤ w2.heap.size := by have := hb2.size; omega
    have HB2 : Hid (Below w.heap.size w w2) := HB1.out.trans (hb2.mono HB1.out.size)
    clear hb2 CC z1 z2 hs1 hl1
    have hl2 : w.heap.size < w2.heap.size := by omega
    by_cases hcz : cv = 0
    · subst hcz
      have HR2 : Hid ((if 64 < rs.length then 3 else rowsGo rs cs) = R) := by have := HR1.out; rwa [if_pos rfl] at this
      clear HR1
      by_cases h64 : 64 < rs.length
      · have t3 : (64 : Int) < (rs.length : Int) := by omega
        have hR : 3 = R := by have := HR2.out; rwa [if_pos h64] at this
        subst hR
        clear HR2 h64
        go_wp2
        go_ret
        exact ⟨rfl, HB2.out⟩
      · have t3 : ¬ (64 : Int) < (rs.length : Int) := by omega
        have HR3 : Hid (rowsGo rs cs = R) := by have := HR2.out; rwa [if_neg h64] at this
        clear HR2
        go_wp2
        go_loopg [27] rs.length (fun gf s27 wx => ∃ i : Nat, s27 = .int .i64 i ∧ i ≤ rs.length ∧ Below w2.heap.size w2 wx ∧ Hid (rowsGo (rs.drop i) cs = R) ∧ rs.length ≤ i + gf)
        case atStart => exact ⟨0, rfl, by omega, Below.refl _ _, HR3, by omega⟩
        case round =>
          obtain ⟨i, rfl, hil, hbw, HG, hgf⟩ := hrel
          clear HR3
          have HW : Hid (Below w.heap.size w wr) := HB2.out.trans (hbw.mono HB2.out.size)
          by_cases hlt : i < rs.length
          · obtain ⟨g', rfl⟩ : ∃ g', gk = g' + 1 := ⟨gk - 1, by omega⟩
            have hz0 : (0 : Int) ≤ (i : Int) := by omega
            have hz1 : (i : Int) < (rs.length : Int) := by omega
            obtain ⟨b, o, rfl, hb, hcells⟩ := HRA.out.2 (by omega)
            obtain ⟨q, m, d, x0, hx⟩ := hcells i hlt
            rw [← HW.out.cell (p := ⟨b, _, none⟩) hb] at x0
            have x1 : wr.cell? ⟨w.heap.size, 1, none⟩ = some (.slice pc mc cc) := by rw [hbw.cell (by simp; omega)]; exact y1
            have hbr : b < wr.heap.size := Nat.lt_of_lt_of_le hb HW.out.size
            have hlw : w.heap.size < wr.heap.size := by have := hbw.size; omega
            have hg := HG.out
            rw [rowsGo_at rs cs i hlt] at hg
            have kc := fun W h => CR.out q m d rs[i] W hx h
            obtain ⟨v, hv⟩ : ∃ v, rowV rs[i] cs = v := ⟨_, rfl⟩
            rw [hv] at hg kc
            have KC : Hid (∀ W, Below w.heap.size w W → Calls Tryd.prog 50 #[.slice q m d, .slice pc mc cc] W fun e w' => e = .returned (.int .i64 v) ∧ Below W.heap.size W w') := kc
            have HG2 : Hid ((if v = 0 then rowsGo (rs.drop (i + 1)) cs else v) = R) := hg
            clear hg kc hv hx hcells HG
            go_wp2_with fail
            refine (KC.out _ HW.out).mono ?_
            rintro e w3 ⟨rfl, hb3⟩
            have HF : Hid (Below w.heap.size w w3) := HW.out.trans (hb3.mono HW.out.size)
            have HF2 : Hid (Below w2.heap.size w2 w3) := hbw.trans (hb3.mono hbw.size)
            clear hb3
            by_cases hv0 : v = 0
            · subst hv0
              have HG3 : Hid (rowsGo (rs.drop (i + 1)) cs = R) := by have := HG2.out; rwa [if_pos rfl] at this
              go_wp2
              go_roundg g'
              case measure => omega
              case rel => exact ⟨i + 1, by go_num, by omega, HF2.out, HG3, by omega⟩
            · have t2 : (v != 0) = true := bne_iff_ne.2 hv0
              have hR : v = R := by have := HG2.out; rwa [if_neg hv0] at this
              subst hR
              clear HG2 hv0
              go_wp2
              go_ret
              exact ⟨rfl, HF.out⟩
          · have hlt' : ¬ (i : Int) < (rs.length : Int) := by omega
            have hR : 0 = R := by have := HG.out; rw [List.drop_of_length_le (by omega)] at this; exact this
            subst hR
            clear HG
            go_wp2
            go_ret
            exact ⟨rfl, HW.out⟩
    · have t2 : (cv != 0) = true := bne_iff_ne.2 hcz
      have hR : cv = R := by have := HR1.out; rwa [if_neg hcz] at this
      subst hR
      clear HR1 hcz
      go_wp2
      go_ret
      exact ⟨rfl, HB2.out⟩
  · have t2 : (nv != 0) = true := bne_iff_ne.2 hn
    have hR : nv = R := by have := HR0.out; rwa [if_neg hn] at this
    subst hR
    clear HR0 hn
    go_wp2
    go_ret
    exact ⟨rfl, HB1.out⟩
set_option maxRecDepth 100000 in
set_option maxHeartbeats 4000000 in
theorem tableRef_core (s : ByteArray) (pc : Option Addr) (mc cc : Nat) (cs : List Col) (pr : Option Addr) (cr : Nat) (rs : List (List Val)) (w : World) (hc : ColA w (.slice pc mc cc) cs) (hr : RowsA w pr rs)
    (R : Int) (HR : Hid (tableV s cs rs = R)) :
    Calls Tryd.prog 32 #[.agg #[.string s, .slice pc mc cc, .slice pr rs.length cr]] w fun e w' => e = .returned (.int .i64 R) ∧ Below w.heap.size w w' := by
  have CN : Hid (∀ W, Calls Tryd.prog 52 #[.string s] W fun e w' => e = .returned (.int .i64 (nameV s)) ∧ Below W.heap.size W w') := fun W => nameRef_any s W
  have CC : Hid (∀ W, Below w.heap.size w W → Calls Tryd.prog 53 #[.slice pc mc cc] W fun e w' => e = .returned (.int .i64 (colsV cs)) ∧ Below W.heap.size W w') := fun W h => colsRef_all (hc.below h)
  have CR : Hid (∀ q m d xs W, RowA w (.slice q m d) xs → Below w.heap.size w W → Calls Tryd.prog 54 #[.slice q m d, .slice pc mc cc] W fun e w' => e = .returned (.int .i64 (rowV xs cs)) ∧ Below W.heap.size W w') := fun q m d xs W hx h => rowRef_all (hx.below h) (hc.below h)
  have HRA : Hid (RowsA w pr rs) := hr
  have hrl := hr.1
  clear hr hc
  obtain ⟨nv, hnv⟩ : ∃ x, nameV s = x := ⟨_, rfl⟩
  obtain ⟨cv, hcv⟩ : ∃ x, colsV cs = x := ⟨_, rfl⟩
  have hR0 := HR.out
  unfold tableV at hR0
  rw [hnv] at CN hR0
  rw [hcv] at CC hR0
  have HR0 : Hid ((if nv = 0 then (if cv = 0 then (if 64 < rs.length then 3 else rowsGo rs cs) else cv) else nv) = R) := hR0
  clear HR hR0 hnv hcv
  go_enter Tryd.func32, Tryd.ntmps32
  go_wp2_with fail
  refine (CN.out _).mono ?_
  rintro e w1 ⟨rfl, hb1⟩
  have z1 : w1.cell? ⟨w.heap.size, 1, none⟩ = some (.slice pc mc cc) := by rw [hb1.cell (by simp)]; simp
  have z2 : w1.cell? ⟨w.heap.size, 2, none⟩ = some (.slice pr rs.length cr) := by rw [hb1.cell (by simp)]; simp
  have hs1 : w.heap.size + 1 ≤ w1.heap.size := by have := hb1.size; simpa using this
  have hbw1 : Below w.heap.size w w1 := ((Below.refl _ _).alloc (Nat.le_refl _) _).trans (hb1.mono (by simp))
  have HB1 : Hid (Below w.heap.size w w1) := hbw1
  clear hb1 CN hbw1
  by_cases hn : nv = 0
  · subst hn
    have HR1 : Hid ((if cv = 0 then (if 64 < rs.length then 3 else rowsGo rs cs) else cv) = R) := by have := HR0.out; rwa [if_pos rfl] at this
    clear HR0
    have hl1 : w.heap.size < w1.heap.size := by omega
    go_wp2_with fail
    refine (CC.out _ HB1.out).mono ?_
    rintro e w2 ⟨rfl, hb2⟩
    have y1 : w2.cell? ⟨w.heap.size, 1, none⟩ = some (.slice pc mc cc) := by rw [hb2.cell (by simp; omega)]; exact z1
    have y2 : w2.cell? ⟨w.heap.size, 2, none⟩ = some (.slice pr rs.length cr) := by rw [hb2.cell (by simp; omega)]; exact z2
    have hs2 : w.heap.size + 1 ≤ w2.heap.size := by have := hb2.size; omega
    have HB2 : Hid (Below w.heap.size w w2) := HB1.out.trans (hb2.mono HB1.out.size)
    clear hb2 CC z1 z2 hs1 hl1
    have hl2 : w.heap.size < w2.heap.size := by omega
    by_cases hcz : cv = 0
    · subst hcz
      have HR2 : Hid ((if 64 < rs.length then 3 else rowsGo rs cs) = R) := by have := HR1.out; rwa [if_pos rfl] at this
      clear HR1
      by_cases h64 : 64 < rs.length
      · have t3 : (64 : Int) < (rs.length : Int) := by omega
        have t4 : decide ((64 : Int) < (rs.length : Int)) = true := by simpa using t3
        have HS0 : Hid ((if (3 : Int) = 0 then rowsGo (rs.drop 0) cs else 3) = R) := by
          have := HR2.out
          rw [if_pos h64] at this
          show _ = _
          rw [if_neg (by decide)]; exact this
        clear HR2
        go_wp2
        go_loopg [3, 25] rs.length (fun gf s3 s25 wx => ∃ (i : Nat) (y : Int), s3 = .int .i64 y ∧ s25 = .int .i64 i ∧ i ≤ rs.length ∧ Below w2.heap.size w2 wx ∧ Hid ((if y = 0 then rowsGo (rs.drop i) cs else y) = R) ∧ rs.length ≤ i + gf)
        case atStart => exact ⟨0, 3, rfl, rfl, by omega, Below.refl _ _, HS0, by omega⟩
        case round =>
          obtain ⟨i, y, rfl, rfl, hil, hbw, HG, hgf⟩ := hrel
          clear HS0
          have HW : Hid (Below w.heap.size w wr) := HB2.out.trans (hbw.mono HB2.out.size)
          by_cases hlt : i < rs.length
          · obtain ⟨g', rfl⟩ : ∃ g', gk = g' + 1 := ⟨gk - 1, by omega⟩
            have hz0 : (0 : Int) ≤ (i : Int) := by omega
            have hz1 : (i : Int) < (rs.length : Int) := by omega
            obtain ⟨b, o, rfl, hb, hcells⟩ := HRA.out.2 (by omega)
            obtain ⟨q, m, d, x0, hx⟩ := hcells i hlt
            rw [← HW.out.cell (p := ⟨b, _, none⟩) hb] at x0
            have x1 : wr.cell? ⟨w.heap.size, 1, none⟩ = some (.slice pc mc cc) := by rw [hbw.cell (by simp; omega)]; exact y1
            have hbr : b < wr.heap.size := Nat.lt_of_lt_of_le hb HW.out.size
            have hlw : w.heap.size < wr.heap.size := by have := hbw.size; omega
            by_cases hy : y = 0
            · subst hy
              have hg := HG.out
              rw [if_pos rfl, rowsGo_at rs cs i hlt] at hg
              have kc := fun W h => CR.out q m d rs[i] W hx h
              obtain ⟨v, hv⟩ : ∃ v, rowV rs[i] cs = v := ⟨_, rfl⟩
              rw [hv] at hg kc
              have KC : Hid (∀ W, Below w.heap.size w W → Calls Tryd.prog 54 #[.slice q m d, .slice pc mc cc] W fun e w' => e = .returned (.int .i64 v) ∧ Below W.heap.size W w') := kc
              have HG2 : Hid ((if v = 0 then rowsGo (rs.drop (i + 1)) cs else v) = R) := hg
              clear hg kc hv hx hcells HG
              go_wp2_with fail
              refine (KC.out _ HW.out).mono ?_
              rintro e w3 ⟨rfl, hb3⟩
              have HF2 : Hid (Below w2.heap.size w2 w3) := hbw.trans (hb3.mono hbw.size)
              clear hb3
              go_wp2
              go_roundg g'
              case measure => omega
              case rel => exact ⟨i + 1, v, rfl, by go_num, by omega, HF2.out, HG2, by omega⟩
            · have t5 : (y == 0) = false := beq_eq_false_iff_ne.2 hy
              have HG2 : Hid ((if y = 0 then rowsGo (rs.drop (i + 1)) cs else y) = R) := by
                have := HG.out
                rw [if_neg hy] at this
                show _ = _
                rw [if_neg hy]; exact this
              clear HG hx hcells hy
              go_wp2
              go_roundg g'
              case measure => omega
              case rel => exact ⟨i + 1, y, rfl, by go_num, by omega, hbw, HG2, by omega⟩
          · have hlt' : ¬ (i : Int) < (rs.length : Int) := by omega
            have hR : y = R := by
              have := HG.out
              by_cases hy : y = 0
              · rw [if_pos hy, List.drop_of_length_le (by omega)] at this
                rw [hy]; exact this
              · rwa [if_neg hy] at this
            subst hR
            clear HG
            go_wp2
            go_ret
            exact ⟨rfl, HW.out⟩
      · have t3 : ¬ (64 : Int) < (rs.length : Int) := by omega
        have t4 : decide ((64 : Int) < (rs.length : Int)) = false := by simpa using t3
        have HS0 : Hid ((if (0 : Int) = 0 then rowsGo (rs.drop 0) cs else 0) = R) := by
          have := HR2.out
          rw [if_neg h64] at this
          show _ = _
          rw [if_pos rfl]; exact this
        clear HR2
        go_wp2
        go_loopg [3, 25] rs.length (fun gf s3 s25 wx => ∃ (i : Nat) (y : Int), s3 = .int .i64 y ∧ s25 = .int .i64 i ∧ i ≤ rs.length ∧ Below w2.heap.size w2 wx ∧ Hid ((if y = 0 then rowsGo (rs.drop i) cs else y) = R) ∧ rs.length ≤ i + gf)
        case atStart => exact ⟨0, 0, rfl, rfl, by omega, Below.refl _ _, HS0, by omega⟩
        case round =>
          obtain ⟨i, y, rfl, rfl, hil, hbw, HG, hgf⟩ := hrel
          clear HS0
          have HW : Hid (Below w.heap.size w wr) := HB2.out.trans (hbw.mono HB2.out.size)
          by_cases hlt : i < rs.length
          · obtain ⟨g', rfl⟩ : ∃ g', gk = g' + 1 := ⟨gk - 1, by omega⟩
            have hz0 : (0 : Int) ≤ (i : Int) := by omega
            have hz1 : (i : Int) < (rs.length : Int) := by omega
            obtain ⟨b, o, rfl, hb, hcells⟩ := HRA.out.2 (by omega)
            obtain ⟨q, m, d, x0, hx⟩ := hcells i hlt
            rw [← HW.out.cell (p := ⟨b, _, none⟩) hb] at x0
            have x1 : wr.cell? ⟨w.heap.size, 1, none⟩ = some (.slice pc mc cc) := by rw [hbw.cell (by simp; omega)]; exact y1
            have hbr : b < wr.heap.size := Nat.lt_of_lt_of_le hb HW.out.size
            have hlw : w.heap.size < wr.heap.size := by have := hbw.size; omega
            by_cases hy : y = 0
            · subst hy
              have hg := HG.out
              rw [if_pos rfl, rowsGo_at rs cs i hlt] at hg
              have kc := fun W h => CR.out q m d rs[i] W hx h
              obtain ⟨v, hv⟩ : ∃ v, rowV rs[i] cs = v := ⟨_, rfl⟩
              rw [hv] at hg kc
              have KC : Hid (∀ W, Below w.heap.size w W → Calls Tryd.prog 54 #[.slice q m d, .slice pc mc cc] W fun e w' => e = .returned (.int .i64 v) ∧ Below W.heap.size W w') := kc
              have HG2 : Hid ((if v = 0 then rowsGo (rs.drop (i + 1)) cs else v) = R) := hg
              clear hg kc hv hx hcells HG
              go_wp2_with fail
              refine (KC.out _ HW.out).mono ?_
              rintro e w3 ⟨rfl, hb3⟩
              have HF2 : Hid (Below w2.heap.size w2 w3) := hbw.trans (hb3.mono hbw.size)
              clear hb3
              go_wp2
              go_roundg g'
              case measure => omega
              case rel => exact ⟨i + 1, v, rfl, by go_num, by omega, HF2.out, HG2, by omega⟩
            · have t5 : (y == 0) = false := beq_eq_false_iff_ne.2 hy
              have HG2 : Hid ((if y = 0 then rowsGo (rs.drop (i + 1)) cs else y) = R) := by
                have := HG.out
                rw [if_neg hy] at this
                show _ = _
                rw [if_neg hy]; exact this
              clear HG hx hcells hy
              go_wp2
              go_roundg g'
              case measure => omega
              case rel => exact ⟨i + 1, y, rfl, by go_num, by omega, hbw, HG2, by omega⟩
          · have hlt' : ¬ (i : Int) < (rs.length : Int) := by omega
            have hR : y = R := by
              have := HG.out
              by_cases hy : y = 0
              · rw [if_pos hy, List.drop_of_length_le (by omega)] at this
                rw [hy]; exact this
              · rwa [if_neg hy] at this
            subst hR
            clear HG
            go_wp2
            go_ret
            exact ⟨rfl, HW.out⟩
    · have t2 : (cv == 0) = false := beq_eq_false_iff_ne.2 hcz
      have HS0 : Hid ((if cv = 0 then rowsGo (rs.drop 0) cs else cv) = R) := by
        have := HR1.out
        rw [if_neg hcz] at this
        show _ = _
        rw [if_neg hcz]; exact this
      clear HR1 hcz
      go_wp2
      go_loopg [3, 25] rs.length (fun gf s3 s25 wx => ∃ (i : Nat) (y : Int), s3 = .int .i64 y ∧ s25 = .int .i64 i ∧ i ≤ rs.length ∧ Below w2.heap.size w2 wx ∧ Hid ((if y = 0 then rowsGo (rs.drop i) cs else y) = R) ∧ rs.length ≤ i + gf)
      case atStart => exact ⟨0, cv, rfl, rfl, by omega, Below.refl _ _, HS0, by omega⟩
      case round =>
        obtain ⟨i, y, rfl, rfl, hil, hbw, HG, hgf⟩ := hrel
        clear HS0
        have HW : Hid (Below w.heap.size w wr) := HB2.out.trans (hbw.mono HB2.out.size)
        by_cases hlt : i < rs.length
        · obtain ⟨g', rfl⟩ : ∃ g', gk = g' + 1 := ⟨gk - 1, by omega⟩
          have hz0 : (0 : Int) ≤ (i : Int) := by omega
          have hz1 : (i : Int) < (rs.length : Int) := by omega
          obtain ⟨b, o, rfl, hb, hcells⟩ := HRA.out.2 (by omega)
          obtain ⟨q, m, d, x0, hx⟩ := hcells i hlt
          rw [← HW.out.cell (p := ⟨b, _, none⟩) hb] at x0
          have x1 : wr.cell? ⟨w.heap.size, 1, none⟩ = some (.slice pc mc cc) := by rw [hbw.cell (by simp; omega)]; exact y1
          have hbr : b < wr.heap.size := Nat.lt_of_lt_of_le hb HW.out.size
          have hlw : w.heap.size < wr.heap.size := by have := hbw.size; omega
          by_cases hy : y = 0
          · subst hy
            have hg := HG.out
            rw [if_pos rfl, rowsGo_at rs cs i hlt] at hg
            have kc := fun W h => CR.out q m d rs[i] W hx h
            obtain ⟨v, hv⟩ : ∃ v, rowV rs[i] cs = v := ⟨_, rfl⟩
            rw [hv] at hg kc
            have KC : Hid (∀ W, Below w.heap.size w W → Calls Tryd.prog 54 #[.slice q m d, .slice pc mc cc] W fun e w' => e = .returned (.int .i64 v) ∧ Below W.heap.size W w') := kc
            have HG2 : Hid ((if v = 0 then rowsGo (rs.drop (i + 1)) cs else v) = R) := hg
            clear hg kc hv hx hcells HG
            go_wp2_with fail
            refine (KC.out _ HW.out).mono ?_
            rintro e w3 ⟨rfl, hb3⟩
            have HF2 : Hid (Below w2.heap.size w2 w3) := hbw.trans (hb3.mono hbw.size)
            clear hb3
            go_wp2
            go_roundg g'
            case measure => omega
            case rel => exact ⟨i + 1, v, rfl, by go_num, by omega, HF2.out, HG2, by omega⟩
          · have t5 : (y == 0) = false := beq_eq_false_iff_ne.2 hy
            have HG2 : Hid ((if y = 0 then rowsGo (rs.drop (i + 1)) cs else y) = R) := by
              have := HG.out
              rw [if_neg hy] at this
              show _ = _
              rw [if_neg hy]; exact this
            clear HG hx hcells hy
            go_wp2
            go_roundg g'
            case measure => omega
            case rel => exact ⟨i + 1, y, rfl, by go_num, by omega, hbw, HG2, by omega⟩
        · have hlt' : ¬ (i : Int) < (rs.length : Int) := by omega
          have hR : y = R := by
            have := HG.out
            by_cases hy : y = 0
            · rw [if_pos hy, List.drop_of_length_le (by omega)] at this
              rw [hy]; exact this
            · rwa [if_neg hy] at this
          subst hR
          clear HG
          go_wp2
          go_ret
          exact ⟨rfl, HW.out⟩
  · have t2 : (nv == 0) = false := beq_eq_false_iff_ne.2 hn
    have HS0 : Hid ((if nv = 0 then rowsGo (rs.drop 0) cs else nv) = R) := by
      have := HR0.out
      rw [if_neg hn] at this
      show _ = _
      rw [if_neg hn]; exact this
    have hl1 : w.heap.size < w1.heap.size := by omega
    clear HR0 hn CC
    go_wp2
    go_loopg [3, 25] rs.length (fun gf s3 s25 wx => ∃ (i : Nat) (y : Int), s3 = .int .i64 y ∧ s25 = .int .i64 i ∧ i ≤ rs.length ∧ Below w1.heap.size w1 wx ∧ Hid ((if y = 0 then rowsGo (rs.drop i) cs else y) = R) ∧ rs.length ≤ i + gf)
    case atStart => exact ⟨0, nv, rfl, rfl, by omega, Below.refl _ _, HS0, by omega⟩
    case round =>
      obtain ⟨i, y, rfl, rfl, hil, hbw, HG, hgf⟩ := hrel
      clear HS0
      have HW : Hid (Below w.heap.size w wr) := HB1.out.trans (hbw.mono HB1.out.size)
      by_cases hlt : i < rs.length
      · obtain ⟨g', rfl⟩ : ∃ g', gk = g' + 1 := ⟨gk - 1, by omega⟩
        have hz0 : (0 : Int) ≤ (i : Int) := by omega
        have hz1 : (i : Int) < (rs.length : Int) := by omega
        obtain ⟨b, o, rfl, hb, hcells⟩ := HRA.out.2 (by omega)
        obtain ⟨q, m, d, x0, hx⟩ := hcells i hlt
        rw [← HW.out.cell (p := ⟨b, _, none⟩) hb] at x0
        have x1 : wr.cell? ⟨w.heap.size, 1, none⟩ = some (.slice pc mc cc) := by rw [hbw.cell (by simp; omega)]; exact z1
        have hbr : b < wr.heap.size := Nat.lt_of_lt_of_le hb HW.out.size
        have hlw : w.heap.size < wr.heap.size := by have := hbw.size; omega
        by_cases hy : y = 0
        · subst hy
          have hg := HG.out
          rw [if_pos rfl, rowsGo_at rs cs i hlt] at hg
          have kc := fun W h => CR.out q m d rs[i] W hx h
          obtain ⟨v, hv⟩ : ∃ v, rowV rs[i] cs = v := ⟨_, rfl⟩
          rw [hv] at hg kc
          have KC : Hid (∀ W, Below w.heap.size w W → Calls Tryd.prog 54 #[.slice q m d, .slice pc mc cc] W fun e w' => e = .returned (.int .i64 v) ∧ Below W.heap.size W w') := kc
          have HG2 : Hid ((if v = 0 then rowsGo (rs.drop (i + 1)) cs else v) = R) := hg
          clear hg kc hv hx hcells HG
          go_wp2_with fail
          refine (KC.out _ HW.out).mono ?_
          rintro e w3 ⟨rfl, hb3⟩
          have HF2 : Hid (Below w1.heap.size w1 w3) := hbw.trans (hb3.mono hbw.size)
          clear hb3
          go_wp2
          go_roundg g'
          case measure => omega
          case rel => exact ⟨i + 1, v, rfl, by go_num, by omega, HF2.out, HG2, by omega⟩
        · have t5 : (y == 0) = false := beq_eq_false_iff_ne.2 hy
          have HG2 : Hid ((if y = 0 then rowsGo (rs.drop (i + 1)) cs else y) = R) := by
            have := HG.out
            rw [if_neg hy] at this
            show _ = _
            rw [if_neg hy]; exact this
          clear HG hx hcells hy
          go_wp2
          go_roundg g'
          case measure => omega
          case rel => exact ⟨i + 1, y, rfl, by go_num, by omega, hbw, HG2, by omega⟩
      · have hlt' : ¬ (i : Int) < (rs.length : Int) := by omega
        have hR : y = R := by
          have := HG.out
          by_cases hy : y = 0
          · rw [if_pos hy, List.drop_of_length_le (by omega)] at this
            rw [hy]; exact this
          · rwa [if_neg hy] at this
        subst hR
        clear HG
        go_wp2
        go_ret
        exact ⟨rfl, HW.out⟩
end Go.Proofs.YthfoijnjgdeaaaaDoor
