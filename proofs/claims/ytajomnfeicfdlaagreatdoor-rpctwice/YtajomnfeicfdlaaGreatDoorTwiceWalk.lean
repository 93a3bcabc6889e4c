/- The walk of RpcTwice. -/
import Derived.Test.YtajomnfeicfdlaaGreatDoorWinWalk
namespace Go.Proofs.YtajomnfeicfdlaaGreatDoor
open Go.Shelf Go.RowKit Go.Lib
set_option linter.unusedVariables false
set_option linter.unusedSimpArgs false
attribute [local go_sem ↓] Go.wp_at_zero Go.wp_at_succ
/-- A window behind more that is put. -/
def moreW (ws l : List (Int × Int)) : List (Int × Int) := l.foldl (fun ws q => putQ q ws) ws
theorem moreW_at (ws xs : List (Int × Int)) (i : Nat) (h : i < xs.length) : moreW ws (xs.take (i + 1)) = putQ xs[i] (moreW ws (xs.take i)) := by unfold moreW; rw [List.take_succ_eq_append_getElem h, List.foldl_append]; rfl
theorem putQ_end (y : Int × Int) (xs : List (Int × Int)) : ∃ m, (putQ y xs).length = m + 1 ∧ (putQ y xs)[m]? = some y := by
 obtain ⟨s, e, _⟩ := putQ_last y xs
 exact ⟨s.length, by rw [e]; simp, by rw [e]; simp⟩
set_option maxRecDepth 100000 in
set_option maxHeartbeats 8000000 in
theorem twice_any (y : Int × Int) (v u : Value) (xs zs : List (Int × Int)) (K : Nat → Prop) (w : World) (h : ListIs rQid 2 16 K w v xs) (hu : ListIs rQid 2 16 K w u zs) (hK : ∀ b, K b → b < w.heap.size) (hcp : CapIs v) (hT : Lib.Utf8Tabs 0 1 w) (h2 : 1 < w.heap.size) :
  Calls Tryz.prog 7 #[.agg #[v], .agg #[.int .u64 y.1, .int .u64 y.2], u] w fun e w' => e = .returned (.bool true) ∧ Below w.heap.size w w' := by
 obtain ⟨W0, hW0, hb0, hs0, g0, g1⟩ := win_boxes w v y
 have HV : Hid (∀ V, Below W0.heap.size W0 V → V.cell? ⟨w.heap.size, 0, none⟩ = some v ∧ BoxQ V (w.heap.size + 1) y ∧ Below w.heap.size w V ∧ ListIs rQid 2 16 K V v xs ∧ (∀ b, K b → b < V.heap.size)) := fun V hb => by
  have hbw : Below w.heap.size w V := hb0.trans (hb.mono hb0.size)
  exact ⟨(hb.cell (p := ⟨w.heap.size, 0, none⟩) (by show w.heap.size < _; omega)).trans (cell_of_row g0 rfl), g1.below (by omega) hb, hbw, h.mono mQid (fun _ h => h) (kept_of hK hbw), fun b hk => Nat.lt_of_lt_of_le (hK b hk) hbw.size⟩
 have CL := hid (lives_any W0 (Utf8Tabs.later hT h2 hb0) (Nat.lt_of_lt_of_le h2 hb0.size))
 have C1 : Hid (∀ V, Below W0.heap.size W0 V → _) := fun V hb => put_any y v xs K V (HV.out V hb).2.2.2.1 (HV.out V hb).2.2.2.2 hcp
 have HU : Hid (ListIs rQid 2 16 K w u zs) := hu
 have HKK : Hid (∀ b, K b → b < w.heap.size) := hK
 obtain ⟨q0, c0, rfl, -, -⟩ := id h
 obtain ⟨qz, cz, rfl, hbz, -⟩ := id hu
 have hz63 : zs.length ≤ 8796093022208 := by omega
 obtain ⟨y1, y2⟩ := y
 obtain ⟨k, hk⟩ : ∃ k, winE xs = k := ⟨_, rfl⟩
 have HKW : Hid (winE xs = k) := hk
 rw [hk] at C1
 have HS0 : Hid (W0.heap.size = w.heap.size + 2) := hs0
 simp only at hW0 C1
 clear h hu hK hcp hT h2 hb0 hs0 g0 g1 hk hbz
 go_enter Tryz.func7, Tryz.ntmps7
 go_wp2_with fail
 refine CL.out.mono ?_
 rintro e w1 ⟨rfl, hb1⟩
 obtain ⟨t1, t2, -⟩ := HV.out w1 hb1
 have u1 := t2.c0
 have u2 := t2.c1
 have CC1 := hid (C1.out w1 hb1)
 have HB1 : Hid (Below W0.heap.size W0 w1) := hb1
 simp only at u1 u2
 clear hb1 t2 C1 CL hW0
 go_wp2_with fail
 refine CC1.out.mono ?_
 rintro e w2 ⟨q2, n2, c2, rfl, hc2, hl2, hb2⟩
 obtain ⟨w3, hw3, hb3, hg3, hs3⟩ := one_box w2 (.slice q2 n2 c2) 24
 have hB3 : Below W0.heap.size W0 w3 := HB1.out.trans ((hb2.trans (hb3.mono hb2.size)).mono HB1.out.size)
 have r3 := cell_of_row (k := 0) hg3 rfl
 have hn2 := (qlen hl2).1
 by_cases hk0 : k = 0
 ·subst hk0
  have hpr : putR (y1, y2) xs = putQ (y1, y2) xs := by unfold putR; rw [if_pos HKW.out]
  rw [hpr] at hl2 hn2
  obtain ⟨hgood, hx16, hp16⟩ := putQ_good (y := (y1, y2)) HKW.out
  have htw := putQ_twice (y := (y1, y2)) hx16
  obtain ⟨m, hm1, hm2⟩ := putQ_end (y1, y2) xs
  have hl3 : ListIs rQid 2 16 (fun b => b < w2.heap.size) w3 (.slice q2 n2 c2) (putQ (y1, y2) xs) := hl2.mono mQid (fun b h => h.2) (kept_of (fun b h => h.2) hb3)
  obtain ⟨-, t2, -⟩ := HV.out w3 hB3
  have u3 := t2.c0
  have u4 := t2.c1
  have CP : Hid (Calls Tryz.prog 9 #[.agg #[.slice q2 n2 c2], .agg #[.int .u64 y1, .int .u64 y2]] w3 fun e w' => ∃ q n c, e = .returned (.tuple #[.agg #[.slice q n c], .int .i64 0]) ∧ n ≤ c ∧ ListIs rQid 2 16 (From w3.heap.size w') w' (.slice q n c) (putQ (y1, y2) xs) ∧ Below w3.heap.size w3 w') := by
   have := put_any (y1, y2) (.slice q2 n2 c2) (putQ (y1, y2) xs) _ w3 hl3 (fun b h => by have h' : b < w2.heap.size := h; omega) (fun q' n' c' e => by cases e; exact hc2)
   rw [hgood] at this
   unfold putR at this
   rw [if_pos hgood, htw] at this
   exact this
  have HB3 : Hid (Below W0.heap.size W0 w3) := hB3
  have HL3 : Hid (ListIs rQid 2 16 (fun b => b < w2.heap.size) w3 (.slice q2 n2 c2) (putQ (y1, y2) xs)) := hl3
  have HG3 : Hid (w3.heap[w2.heap.size]? = some (.cells #[.slice q2 n2 c2] 24 (0, 0)) ∧ w3.heap.size = w2.heap.size + 1) := ⟨hg3, hs3⟩
  have HM : Hid (n2 = m + 1 ∧ (putQ (y1, y2) xs)[m]? = some (y1, y2) ∧ (putQ (y1, y2) xs).length = m + 1) := ⟨by omega, hm2, hm1⟩
  have HGD : Hid (winE (putQ (y1, y2) xs) = 0) := hgood
  simp only at u3 u4
  clear hpr hl2 hn2 hgood hx16 hp16 htw hm1 hm2 hl3 t2 hB3 hg3 hs3 hb2 hb3 CC1 u1 u2 t1
  go_wp2_with fail
  refine CP.out.mono ?_
  rintro e w4 ⟨q4, n4, c4, rfl, hc4, hl4, hb4⟩
  obtain ⟨w5, hw5, hb5, hg5, hs5⟩ := one_box w4 (.slice q4 n4 c4) 24
  have hb35 : Below w3.heap.size w3 w5 := hb4.trans (hb5.mono hb4.size)
  have hB5 : Below W0.heap.size W0 w5 := HB3.out.trans (hb35.mono HB3.out.size)
  have hlA : ListIs rQid 2 16 (fun b => b < w4.heap.size) w5 (.slice q2 n2 c2) (putQ (y1, y2) xs) := HL3.out.mono mQid (fun b h => by have h' : b < w2.heap.size := h; have := HG3.out.2; have := hb4.size; show b < _; omega) (kept_of (fun b h => by have h' : b < w2.heap.size := h; have := HG3.out.2; omega) hb35)
  have hlB : ListIs rQid 2 16 (fun b => b < w4.heap.size) w5 (.slice q4 n4 c4) (putQ (y1, y2) xs) := hl4.mono mQid (fun b h => h.2) (kept_of (fun b h => h.2) hb5)
  have hlB' : ListIs rQid 2 16 (From (w3.heap.size) w4) w5 (.slice q4 n4 c4) (putQ (y1, y2) xs) := hl4.mono mQid (fun b h => h) (kept_of (fun b h => h.2) hb5)
  obtain ⟨ba, oa, a1, a2, rfl, hKa, hax, ca1, ca2⟩ := qat hlA m (by have := HM.out.2.2; omega)
  have hay : (a1, a2) = (y1, y2) := by
   have := HM.out.2.1
   rw [List.getElem?_eq_getElem (by have := HM.out.2.2; omega), hax] at this
   exact Option.some.inj this
  cases hay
  have hlt2 : w2.heap.size < w3.heap.size := by have := HG3.out.2; omega
  have HS : Hid (∀ p : LaterS w5.heap.size w5, p.w.cell? ⟨w2.heap.size, 0, none⟩ = some (.slice (some ⟨ba, oa, none⟩) n2 c2) ∧ p.w.cell? ⟨w4.heap.size, 0, none⟩ = some (.slice q4 n4 c4) ∧ p.w.cell? ⟨w.heap.size + 1, 0, none⟩ = some (.int .u64 y1) ∧ p.w.cell? ⟨w.heap.size + 1, 1, none⟩ = some (.int .u64 y2) ∧ p.w.cell? ⟨ba, oa + m * 2, none⟩ = some (.int .u64 y1) ∧ p.w.cell? ⟨ba, oa + m * 2 + 1, none⟩ = some (.int .u64 y2)) := fun p => by
   obtain ⟨-, t2, -⟩ := HV.out p.w (hB5.trans (p.h.mono hB5.size))
   exact ⟨(p.h.cell (p := ⟨w2.heap.size, 0, none⟩) (by show w2.heap.size < _; have := hb35.size; omega)).trans ((hb35.cell (p := ⟨w2.heap.size, 0, none⟩) hlt2).trans (cell_of_row HG3.out.1 rfl)), (p.h.cell (p := ⟨w4.heap.size, 0, none⟩) (by show w4.heap.size < _; omega)).trans (cell_of_row hg5 rfl), t2.c0, t2.c1, (p.h.cell (p := ⟨ba, _, none⟩) (by show ba < _; have h' : ba < w4.heap.size := hKa; omega)).trans ca1, (p.h.cell (p := ⟨ba, _, none⟩) (by show ba < _; have h' : ba < w4.heap.size := hKa; omega)).trans ca2⟩
  have cS : Hid (∀ p : LaterS w5.heap.size w5, Calls Tryz.prog 12 #[.agg #[.slice (some ⟨ba, oa, none⟩) n2 c2], .agg #[.slice q4 n4 c4]] p.w fun e w' => e = .returned (.bool true) ∧ Below p.w.heap.size p.w w') := fun p => by
   have := sameWindow_any _ _ _ _ _ p.w (hlA.mono mQid (fun _ h => h) (kept_of (fun b h => by have h' : b < w4.heap.size := h; omega) p.h)) (hlB.mono mQid (fun _ h => h) (kept_of (fun b h => by have h' : b < w4.heap.size := h; omega) p.h)) (fun b h => by have h' : b < w4.heap.size := h; have := p.h.size; omega)
   rw [decide_eq_true rfl] at this
   exact this
  have HB5 : Hid (Below W0.heap.size W0 w5) := hB5
  have HG5 : Hid (w5.heap[w4.heap.size]? = some (.cells #[.slice q4 n4 c4] 24 (0, 0)) ∧ W0.heap.size ≤ w4.heap.size ∧ w5.heap.size = w4.heap.size + 1) := ⟨hg5, by have := HB3.out.size; have := hb4.size; omega, hs5⟩
  have HL5 : Hid (ListIs rQid 2 16 (From w3.heap.size w4) w5 (.slice q4 n4 c4) (moreW (putQ (y1, y2) xs) (zs.take 0))) := hlB'
  have HW3 : Hid (W0.heap.size ≤ w3.heap.size) := HB3.out.size
  obtain rfl : n2 = m + 1 := HM.out.1
  have zn : ((m : Int) + 1 == 0) = false := beq_eq_false_iff_ne.2 (by omega)
  have zm0 : (0 : Int) ≤ (m : Int) := by omega
  have hm17 : m ≤ 16 := by have h1 := HM.out.2.2; have := (putQ_good (y := (y1, y2)) HKW.out).2.2; omega
  have EQ := neq_qid y1 y2 y1 y2
  rw [decide_eq_true rfl] at EQ
  clear hl4 hb4 hb5 hg5 hs5 hb35 hB5 hlA hlB hlB' hKa hax ca1 ca2 hlt2 CP u3 u4 r3 HL3 HM HG3 HB3
  go_wp2_with fail
  have m0 := fun p => (HS.out p).1
  have m1 := fun p => (HS.out p).2.1
  have m2 := fun p => (HS.out p).2.2.1
  have m3 := fun p => (HS.out p).2.2.2.1
  have m4 := fun p => (HS.out p).2.2.2.2.1
  have m5 := fun p => (HS.out p).2.2.2.2.2
  have inhL := laterInh
  refine wp_region_laterS mixedOnS (by kernel_rfl) ?_
  repeat (go_big_quiet_step ((go_at_call 12; exact calls_laterS (cS.out _))))
  refine wpQuiet_nil ?_
  intro w6 hw'
  obtain ⟨⟨wq, hwq⟩, hw''⟩ := hw'
  have e6 : w6 = wq := hw''
  subst e6
  have HB6 : Hid (Below w5.heap.size w5 w6) := hwq
  have hg6 : w6.heap[w4.heap.size]? = some (.cells #[.slice q4 n4 c4] 24 (0, 0)) := by rw [hwq.block _ (by have := HG5.out.2.2; omega)]; exact HG5.out.1
  have HG6 : Hid (w6.heap[w4.heap.size]? = some (.cells #[.slice q4 n4 c4] 24 (0, 0))) := hg6
  have HL6 : Hid (ListIs rQid 2 16 (fun b => W0.heap.size ≤ b ∧ b ≠ w4.heap.size ∧ b < w6.heap.size) w6 (.slice q4 n4 c4) (moreW (putQ (y1, y2) xs) (zs.take 0))) := HL5.out.mono mQid (fun b h => ⟨by have := h.1; have := HW3.out; omega, by have := h.2; omega, by have := h.2; have := hwq.size; have := HG5.out.2.2; omega⟩) (kept_of (fun b h => by have := h.2; have := HG5.out.2.2; omega) hwq)
  have HBW : Hid (∀ V, (Below W0.heap.size W0 V) → Below w.heap.size w V ∧ BoxQ V (w.heap.size + 1) (y1, y2)) := fun V hb => ⟨(HV.out V hb).2.2.1, (HV.out V hb).2.1⟩
  have HB06 : Hid (Below W0.heap.size W0 w6) := HB5.out.trans (hwq.mono HB5.out.size)
  have HLT : Hid (Late (y1, y2) 0 (moreW (putQ (y1, y2) xs) (zs.take 0)) ∧ winE (moreW (putQ (y1, y2) xs) (zs.take 0)) = 0) := ⟨Late.of _ _ _, HGD.out⟩
  clear hw'' hwq m0 m1 m2 m3 m4 m5 HS cS hg6 HL5 HB6 EQ
  go_wp2_with fail
  go_loopg [61] zs.length (fun gf s61 wx => ∃ (i : Nat) (q : Option Addr) (n c : Nat), s61 = .int .i64 i ∧ i ≤ zs.length ∧ i ≤ 15 ∧ zs.length ≤ i + gf ∧ n ≤ c ∧ Hid (Below W0.heap.size W0 wx) ∧ Hid (wx.heap[w4.heap.size]? = some (.cells #[.slice q n c] 24 (0, 0))) ∧ Hid (ListIs rQid 2 16 (fun b => W0.heap.size ≤ b ∧ b ≠ w4.heap.size ∧ b < wx.heap.size) wx (.slice q n c) (moreW (putQ (y1, y2) xs) (zs.take i))) ∧ Hid (Late (y1, y2) i (moreW (putQ (y1, y2) xs) (zs.take i)) ∧ winE (moreW (putQ (y1, y2) xs) (zs.take i)) = 0))
  case atStart => exact ⟨0, q4, n4, c4, rfl, by omega, by omega, by omega, hc4, HB06, HG6, HL6, HLT⟩
  case round =>
   clear HB06 HG6 HL6 HLT
   obtain ⟨i, q, n, c, rfl, hi1, hi15, hgf, hnc, HB, HG, HL, HLA⟩ := hrel
   by_cases hi : i < zs.length
   ·obtain ⟨g', rfl⟩ : ∃ g', gk = g' + 1 := ⟨gk - 1, by omega⟩
    obtain ⟨hbw, hqy⟩ := HBW.out wr HB.out
    obtain ⟨b, o, x1, x2, rfl, hKb, hx, c1', c2'⟩ := qat HU.out i hi
    have k0 : wr.cell? ⟨b, o + i * 2, none⟩ = some (.int .u64 x1) := (hbw.cell (p := ⟨b, _, none⟩) (HKK.out _ hKb)).trans c1'
    have k1 : wr.cell? ⟨b, o + i * 2 + 1, none⟩ = some (.int .u64 x2) := (hbw.cell (p := ⟨b, _, none⟩) (HKK.out _ hKb)).trans c2'
    obtain ⟨W1, hW1, hbW1, hq1⟩ := qbox wr (x1, x2)
    have hlt : w4.heap.size < wr.heap.size := (Array.getElem?_eq_some_iff.1 HG.out).1
    have s0 : W1.cell? ⟨w4.heap.size, 0, none⟩ = some (.slice q n c) := (hbW1.cell (p := ⟨w4.heap.size, 0, none⟩) hlt).trans (cell_of_row HG.out rfl)
    have s1 := hq1.c0
    have s2 := hq1.c1
    have hB1 : Below W0.heap.size W0 W1 := HB.out.trans (hbW1.mono HB.out.size)
    have z0 : (0 : Int) ≤ (i : Int) := by omega
    have z1 : (i : Int) < (zs.length : Int) := by omega
    simp only at hW1 s1 s2
    by_cases h15 : i = 15
    ·have ze : ((i : Int) == 15) = true := by simp; omega
     have HF : Hid (Below w.heap.size w W1) := (HBW.out W1 hB1).1
     clear hbw hqy hKb hx c1' c2' hbW1 hq1 hlt hB1 HL HG HLA h15
     go_wp2_with fail
     go_ret
     exact ⟨rfl, HF.out⟩
    ·have ze : ((i : Int) == 15) = false := beq_eq_false_iff_ne.2 (by omega)
     have hLst := moreW_at (putQ (y1, y2) xs) zs i hi
     rw [hx] at hLst
     obtain ⟨hla, hgood⟩ := HLA.out
     obtain ⟨hgood1, _, _⟩ := putQ_good (y := (x1, x2)) hgood
     have hla1 := hla.put (by omega) (x1, x2)
     rw [← hLst] at hla1 hgood1
     have hmx : (x1, x2) ∈ moreW (putQ (y1, y2) xs) (zs.take (i + 1)) := by rw [hLst]; exact putQ_mem _ _
     have CP2 : Hid (Calls Tryz.prog 9 #[.agg #[.slice q n c], .agg #[.int .u64 x1, .int .u64 x2]] W1 fun e w' => ∃ q n c, e = .returned (.tuple #[.agg #[.slice q n c], .int .i64 0]) ∧ n ≤ c ∧ ListIs rQid 2 16 (From W1.heap.size w') w' (.slice q n c) (moreW (putQ (y1, y2) xs) (zs.take (i + 1))) ∧ Below W1.heap.size W1 w') := by
      have := put_any (x1, x2) (.slice q n c) (moreW (putQ (y1, y2) xs) (zs.take i)) _ W1 (HL.out.mono mQid (fun _ h => h) (kept_of (fun b h => h.2.2) hbW1)) (fun b h => Nat.lt_of_lt_of_le h.2.2 hbW1.size) (fun q' n' c' e => by cases e; exact hnc)
      rw [hgood] at this
      unfold putR at this
      rw [if_pos hgood, ← hLst] at this
      exact this
     have HLA1 : Hid (Late (y1, y2) (i + 1) (moreW (putQ (y1, y2) xs) (zs.take (i + 1))) ∧ winE (moreW (putQ (y1, y2) xs) (zs.take (i + 1))) = 0) := ⟨hla1, hgood1⟩
     have HMX : Hid ((x1, x2) ∈ moreW (putQ (y1, y2) xs) (zs.take (i + 1))) := hmx
     have HBW1 : Hid (Below W0.heap.size W0 W1) := hB1
     have HGW1 : Hid (W1.heap[w4.heap.size]? = some (.cells #[.slice q n c] 24 (0, 0)) ∧ w4.heap.size < W1.heap.size ∧ BoxQ W1 wr.heap.size (x1, x2) ∧ w4.heap.size ≠ wr.heap.size) := ⟨by rw [hbW1.block _ hlt]; exact HG.out, Nat.lt_of_lt_of_le hlt hbW1.size, hq1, by omega⟩
     clear hbw hqy hKb hx c1' c2' hbW1 hq1 hlt hB1 HL HG HLA hLst hla hgood hgood1 hla1 hmx
     go_wp2_with fail
     refine CP2.out.mono ?_
     rintro e w7 ⟨q7, n7, c7, rfl, hc7, hl7, hb7⟩
     have hg7 : w7.heap[w4.heap.size]? = some (.cells #[.slice q n c] 24 (0, 0)) := by rw [hb7.block _ HGW1.out.2.1]; exact HGW1.out.1
     have a0 := cell_of_row (k := 0) hg7 rfl
     have f0 := frozen_zero hg7 0
     obtain ⟨W8, hW8⟩ : ∃ W8, w7.setCell ⟨w4.heap.size, 0, none⟩ (.slice q7 n7 c7) = W8 := ⟨_, rfl⟩
     obtain ⟨p1, p2, p3, p4, p5⟩ := setCell_any w7 w4.heap.size 0 (.slice q7 n7 c7)
     rw [hW8] at p1 p2 p3 p4 p5
     have hB7 : Below W0.heap.size W0 w7 := HBW1.out.trans (hb7.mono HBW1.out.size)
     have hB8 : Below W0.heap.size W0 W8 := ⟨p2.trans hB7.os, p3.trans hB7.tape, p4.trans hB7.output, by have := hB7.size; omega, fun b hb => by rw [p5 b (by have := HG5.out.2.1; omega)]; exact hB7.block b hb⟩
     have hg8 : W8.heap[w4.heap.size]? = some (.cells #[.slice q7 n7 c7] 24 (0, 0)) := by rw [← hW8, setCell_eq_setRow w7 _ 0 _ 24 (0, 0) _ hg7]; exact setRow_heap w7 _ _ _ 24 _ hg7
     have hl8 : ListIs rQid 2 16 (fun b => W0.heap.size ≤ b ∧ b ≠ w4.heap.size ∧ b < W8.heap.size) W8 (.slice q7 n7 c7) (moreW (putQ (y1, y2) xs) (zs.take (i + 1))) := hl7.mono mQid (fun b h => ⟨by have := h.1; have := HBW1.out.size; omega, by have := h.1; have := HGW1.out.2.1; omega, by have := h.2; omega⟩) ⟨p2, p3, p4, by omega, fun b h => p5 b (by have := h.1; have := HGW1.out.2.1; omega)⟩
     have hqx : BoxQ W8 wr.heap.size (x1, x2) := by
      show W8.heap[_]? = _
      rw [p5 _ (fun e => HGW1.out.2.2.2 e.symm), hb7.block _ HGW1.out.2.2.1.lt]; exact HGW1.out.2.2.1
     have HHK : Hid (∀ V, Below W8.heap.size W8 V → Below W0.heap.size W0 V ∧ V.heap[w4.heap.size]? = some (.cells #[.slice q7 n7 c7] 24 (0, 0)) ∧ ListIs rQid 2 16 (fun b => W0.heap.size ≤ b ∧ b ≠ w4.heap.size ∧ b < V.heap.size) V (.slice q7 n7 c7) (moreW (putQ (y1, y2) xs) (zs.take (i + 1))) ∧ BoxQ V wr.heap.size (x1, x2)) := fun V hb => ⟨hB8.trans (hb.mono hB8.size), by rw [hb.block _ (Array.getElem?_eq_some_iff.1 hg8).1]; exact hg8, hl8.mono mQid (fun b h => ⟨h.1, h.2.1, Nat.lt_of_lt_of_le h.2.2 hb.size⟩) (kept_of (fun b h => h.2.2) hb), hqx.below hqx.lt hb⟩
     have CH : Hid (∀ V, Below W8.heap.size W8 V → ∀ z : Int × Int, z ∈ moreW (putQ (y1, y2) xs) (zs.take (i + 1)) → Calls Tryz.prog 13 #[.agg #[.slice q7 n7 c7], .agg #[.int .u64 z.1, .int .u64 z.2]] V fun e w' => e = .returned (.bool true) ∧ Below V.heap.size V w') := fun V hb z hz => by
      obtain ⟨-, -, t3, -⟩ := HHK.out V hb
      have := has_any z (.slice q7 n7 c7) _ _ V t3 (fun b h => h.2.2)
      rw [decide_eq_true hz] at this
      exact this
     have r0 := cell_of_row (k := 0) hg8 rfl
     have r1 := (HBW.out W8 hB8).2.c0
     have r2 := (HBW.out W8 hB8).2.c1
     have CH1 := hid (CH.out W8 (Below.refl _ _) (y1, y2) HLA1.out.1.mem)
     simp only at r1 r2 CH1
     clear hl7 hb7 hg7 p1 p2 p3 p4 p5 hB7 hB8 hg8 hl8 hqx CP2 HBW1 HGW1 k0 k1 s0 s1 s2 hW1
     go_wp2_with fail
     refine CH1.out.mono ?_
     rintro e w9 ⟨rfl, hb9⟩
     obtain ⟨t1, t2, t3, t4⟩ := HHK.out w9 hb9
     have r3 := cell_of_row (k := 0) t2 rfl
     have r4 := t4.c0
     have r5 := t4.c1
     have CH2 := hid (CH.out w9 hb9 (x1, x2) HMX.out)
     have HB9 : Hid (Below W8.heap.size W8 w9) := hb9
     simp only at r4 r5 CH2
     clear hb9 t1 t2 t3 t4 CH1 r0 r1 r2 a0 f0 hW8
     go_wp2_with fail
     refine CH2.out.mono ?_
     rintro e w10 ⟨rfl, hb10⟩
     obtain ⟨t1, t2, t3, t4⟩ := HHK.out w10 (HB9.out.trans (hb10.mono HB9.out.size))
     have HX1 : Hid (Below W0.heap.size W0 w10) := t1
     have HX2 : Hid (w10.heap[w4.heap.size]? = some (.cells #[.slice q7 n7 c7] 24 (0, 0))) := t2
     have HX3 : Hid (ListIs rQid 2 16 (fun b => W0.heap.size ≤ b ∧ b ≠ w4.heap.size ∧ b < w10.heap.size) w10 (.slice q7 n7 c7) (moreW (putQ (y1, y2) xs) (zs.take (i + 1)))) := t3
     clear hb10 t1 t2 t3 t4 CH2 r3 r4 r5
     go_wp2_with fail
     go_roundg g'
     case measure => omega
     case rel => exact ⟨i + 1, q7, n7, c7, by go_num, by omega, by omega, by omega, hc7, HX1, HX2, HX3, HLA1⟩
   ·have z1 : ¬ (i : Int) < (zs.length : Int) := by omega
    have HF : Hid (Below w.heap.size w wr) := (HBW.out wr HB.out).1
    clear HG HL HLA
    go_wp2_with fail
    go_ret
    exact ⟨rfl, HF.out⟩
 ·have hk6 : (k != 0) = true := by simpa using hk0
  have hpr : putR (y1, y2) xs = [] := by unfold putR; rw [if_neg (by rw [HKW.out]; exact hk0)]
  rw [hpr] at hn2
  have hn0 : n2 = 0 := by simpa using hn2
  subst hn0
  have HF : Hid (Below w.heap.size w w3) := (HV.out w3 hB3).2.2.1
  have hk7 : ¬ k = 0 := hk0
  clear hpr hl2 hb2 hb3 hg3 hs3 hB3 hn2 hk0
  go_wp2_with fail
  go_ret
  exact ⟨rfl, HF.out⟩
end Go.Proofs.YtajomnfeicfdlaaGreatDoor
