/- The walk of RpcLast. -/
import Derived.Test.YtajomnfeicfdlaaGreatDoorIn
namespace Go.Proofs.YtajomnfeicfdlaaGreatDoor
open Go.Shelf Go.RowKit Go.Lib
set_option linter.unusedVariables false
set_option linter.unusedSimpArgs false
attribute [local go_sem ↓] Go.wp_at_zero Go.wp_at_succ
/-- The window behind all that was put. -/
def lastW (l : List (Int × Int)) : List (Int × Int) := l.foldl (fun ws q => putQ q ws) []
theorem lastW_step (l : List (Int × Int)) (y : Int × Int) : lastW (l ++ [y]) = putQ y (lastW l) := by simp [lastW]
theorem lastW_at (xs : List (Int × Int)) (i : Nat) (h : i < xs.length) : lastW (xs.take (i + 1)) = putQ xs[i] (lastW (xs.take i)) := by rw [List.take_succ_eq_append_getElem h, lastW_step]
theorem lastW_good (xs : List (Int × Int)) : ∀ n, n ≤ xs.length → winE (lastW (xs.take n)) = 0
 | 0, _ => by simp [lastW, winE]
 | n + 1, h => by rw [lastW_at xs n (by omega)]; exact (putQ_good (lastW_good xs n (by omega))).1
theorem lastW_late (xs : List (Int × Int)) : ∀ n, n ≤ xs.length → ∀ k (h : k < xs.length), k < n → n - 1 - k < 16 → Late xs[k] (n - 1 - k) (lastW (xs.take n))
 | 0, _, k, _, hk, _ => by omega
 | n + 1, h, k, hkx, hk, hn => by
  rw [lastW_at xs n (by omega)]
  by_cases e : k = n
  ·subst e; exact Late.of _ _ _
  ·have := (lastW_late xs n (by omega) k hkx (by omega) (by omega)).put (by omega) xs[n]
   rwa [show n - 1 - k + 1 = n + 1 - 1 - k by omega] at this
theorem lastW_has (xs : List (Int × Int)) (i k : Nat) (hi : i < xs.length) (hk : k ≤ i) (h16 : i - k < 16) : xs[k]'(by omega) ∈ lastW (xs.take (i + 1)) := (lastW_late xs (i + 1) (by omega) k (by omega) (by omega) (by omega)).mem
set_option maxRecDepth 100000 in
set_option maxHeartbeats 8000000 in
theorem last_any (v : Value) (xs : List (Int × Int)) (K : Nat → Prop) (w : World) (h : ListIs rQid 2 16 K w v xs) (hK : ∀ b, K b → b < w.heap.size) (hT : Lib.Utf8Tabs 0 1 w) (h2 : 1 < w.heap.size) :
  Calls Tryz.prog 4 #[v] w fun e w' => e = .returned (.bool true) ∧ Below w.heap.size w w' := by
 obtain ⟨q0, c0, rfl, hby, -⟩ := id h
 have H1 : Hid (ListIs rQid 2 16 K w (.slice q0 xs.length c0) xs) := h
 have HKK : Hid (∀ b, K b → b < w.heap.size) := hK
 have hx63 : xs.length ≤ 8796093022208 := by omega
 have CL := hid (lives_any w hT h2)
 clear h hK hT h2 hby
 go_enter Tryz.func4, Tryz.ntmps4
 go_wp2_with fail
 refine CL.out.mono ?_
 rintro e w1 ⟨rfl, hb1⟩
 obtain ⟨w2, hw2, hb2, hg2, hs2⟩ := one_box w1 (.slice none 0 0) 24
 have HB2 : Hid (Below w.heap.size w w2) := hb1.trans (hb2.mono hb1.size)
 have HG2 : Hid (w2.heap[w1.heap.size]? = some (.cells #[.slice none 0 0] 24 (0, 0))) := hg2
 have HW1 : Hid (w.heap.size ≤ w1.heap.size) := hb1.size
 have t0 := cell_of_row (k := 0) hg2 rfl
 have f0 := frozen_zero hg2 0
 have e0 := setCell_self (v := .slice none 0 0) (k := 0) hg2 rfl
 clear hb1 hb2 hg2 hs2 CL
 go_wp2_with fail
 go_loopg [14] xs.length (fun gf s14 wx => ∃ (i : Nat) (q : Option Addr) (n c : Nat), s14 = .int .i64 i ∧ i ≤ xs.length ∧ xs.length ≤ i + gf ∧ n ≤ c ∧ Hid (Below w.heap.size w wx) ∧ Hid (wx.heap[w1.heap.size]? = some (.cells #[.slice q n c] 24 (0, 0))) ∧ Hid (ListIs rQid 2 16 (From (w1.heap.size + 1) wx) wx (.slice q n c) (lastW (xs.take i))))
 case atStart => exact ⟨0, none, 0, 0, rfl, by omega, by omega, Nat.le_refl _, HB2, HG2, ListIs.nil _ _ _ _ _⟩
 case round =>
  clear HB2 HG2 hw2 t0 f0 e0
  obtain ⟨i, q, n, c, rfl, hi1, hgf, hnc, HB, HG, HL⟩ := hrel
  by_cases hi : i < xs.length
  ·obtain ⟨g', rfl⟩ : ∃ g', gk = g' + 1 := ⟨gk - 1, by omega⟩
   obtain ⟨b, o, x1, x2, rfl, hKb, hx, c1', c2'⟩ := qat H1.out i hi
   have k0 : wr.cell? ⟨b, o + i * 2, none⟩ = some (.int .u64 x1) := (HB.out.cell (p := ⟨b, _, none⟩) (HKK.out _ hKb)).trans c1'
   have k1 : wr.cell? ⟨b, o + i * 2 + 1, none⟩ = some (.int .u64 x2) := (HB.out.cell (p := ⟨b, _, none⟩) (HKK.out _ hKb)).trans c2'
   obtain ⟨W1, hW1, hbW1, hq1⟩ := qbox wr (x1, x2)
   have hlt : w1.heap.size < wr.heap.size := (Array.getElem?_eq_some_iff.1 HG.out).1
   have s0 : W1.cell? ⟨w1.heap.size, 0, none⟩ = some (.slice q n c) := (hbW1.cell (p := ⟨w1.heap.size, 0, none⟩) hlt).trans (cell_of_row HG.out rfl)
   have s1 := hq1.c0
   have s2 := hq1.c1
   have hLst := lastW_at xs i hi
   have hgood := lastW_good xs i (by omega)
   have hgood1 := lastW_good xs (i + 1) (by omega)
   rw [hx] at hLst
   obtain ⟨_, hl16, hl16'⟩ := putQ_good (y := (x1, x2)) hgood
   have HL16 : Hid ((putQ (x1, x2) (lastW (xs.take i))).length ≤ 16) := hl16'
   have CP : Hid (Calls Tryz.prog 9 #[.agg #[.slice q n c], .agg #[.int .u64 x1, .int .u64 x2]] W1 fun e w' => ∃ q n c, e = .returned (.tuple #[.agg #[.slice q n c], .int .i64 0]) ∧ n ≤ c ∧ ListIs rQid 2 16 (From W1.heap.size w') w' (.slice q n c) (lastW (xs.take (i + 1))) ∧ Below W1.heap.size W1 w') := by
    have := put_any (x1, x2) (.slice q n c) (lastW (xs.take i)) _ W1 (HL.out.mono mQid (fun _ h => h) (kept_of (fun b h => h.2) hbW1)) (fun b h => Nat.lt_of_lt_of_le h.2 hbW1.size) (fun q' n' c' e => by cases e; exact hnc)
    rw [hgood] at this
    unfold putR at this
    rw [if_pos hgood, ← hLst] at this
    exact this
   have HE1 : Hid (winE (lastW (xs.take (i + 1))) = 0) := hgood1
   have HLE : Hid ((lastW (xs.take (i + 1))).length ≤ 16) := by show _ ≤ _; rw [hLst]; exact hl16'
   have HBW1 : Hid (Below w.heap.size w W1) := HB.out.trans (hbW1.mono HB.out.size)
   have HGW1 : Hid (W1.heap[w1.heap.size]? = some (.cells #[.slice q n c] 24 (0, 0)) ∧ w1.heap.size < W1.heap.size) := ⟨by rw [hbW1.block _ hlt]; exact HG.out, Nat.lt_of_lt_of_le hlt hbW1.size⟩
   have z0 : (0 : Int) ≤ (i : Int) := by omega
   have z1 : (i : Int) < (xs.length : Int) := by omega
   simp only at hW1 s1 s2
   clear hx c1' c2' hbW1 hq1 hlt hLst hgood hgood1 hl16 hl16' HL16 HL HG hnc HB
   obtain ⟨V0, hV0⟩ : ∃ V0 : World, V0 = wr := ⟨_, rfl⟩
   subst hV0
   go_wp2_with fail
   refine CP.out.mono ?_
   rintro e w3 ⟨q3, n3, c3, rfl, hc3, hl3, hb3⟩
   obtain ⟨w4, hw4, hb4, hg4, hs4⟩ := one_box w3 (.slice q3 n3 c3) 24
   have hlen3 : n3 = (lastW (xs.take (i + 1))).length := (qlen hl3).1
   have hl4 : ListIs rQid 2 16 (From W1.heap.size w3) w4 (.slice q3 n3 c3) (lastW (xs.take (i + 1))) := hl3.mono mQid (fun _ h => h) (kept_of (fun b h => h.2) hb4)
   have CK : Hid (Calls Tryz.prog 15 #[.agg #[.slice q3 n3 c3]] w4 fun e w' => e = .returned (.int .i64 0) ∧ Below w4.heap.size w4 w') := by
    have := checkWindow_any (.slice q3 n3 c3) _ _ w4 hl4 (fun b h => by have := h.2; omega) (fun q' n' c' e => by cases e; exact hc3)
    rw [HE1.out] at this
    exact this
   have hb14 : Below W1.heap.size W1 w4 := hb3.trans (hb4.mono hb3.size)
   have HB4 : Hid (Below w.heap.size w w4) := HBW1.out.trans (hb14.mono HBW1.out.size)
   have HG4 : Hid (w4.heap[w1.heap.size]? = some (.cells #[.slice q n c] 24 (0, 0)) ∧ w4.heap[w3.heap.size]? = some (.cells #[.slice q3 n3 c3] 24 (0, 0)) ∧ w4.heap.size = w3.heap.size + 1 ∧ W1.heap.size ≤ w3.heap.size) := ⟨by rw [hb14.block _ HGW1.out.2]; exact HGW1.out.1, hg4, hs4, hb3.size⟩
   have HL4 : Hid (ListIs rQid 2 16 (From W1.heap.size w3) w4 (.slice q3 n3 c3) (lastW (xs.take (i + 1)))) := hl4
   have t0 := cell_of_row (k := 0) hg4 rfl
   have zn : ¬ (16 : Int) < (n3 : Int) := by have := HLE.out; omega
   clear hl3 hb3 hb4 hg4 hs4 hlen3 hl4 hb14 CP k0 k1 s0 s1 s2
   go_wp2_with fail
   refine CK.out.mono ?_
   rintro e w5 ⟨rfl, hb5⟩
   have hg5 : w5.heap[w1.heap.size]? = some (.cells #[.slice q n c] 24 (0, 0)) := by rw [hb5.block _ (by have := HG4.out; have := HGW1.out.2; omega)]; exact HG4.out.1
   have hx5 : w5.heap[w3.heap.size]? = some (.cells #[.slice q3 n3 c3] 24 (0, 0)) := by rw [hb5.block _ (by have := HG4.out; omega)]; exact HG4.out.2.1
   have a0 := cell_of_row (k := 0) hg5 rfl
   have f0 := frozen_zero hg5 0
   have a1 := cell_of_row (k := 0) hx5 rfl
   have hne : w3.heap.size ≠ w1.heap.size := by have := HG4.out; have := HGW1.out.2; omega
   have hne' : w1.heap.size ≠ w3.heap.size := fun e => hne e.symm
   obtain ⟨W6, hW6⟩ : ∃ W6, w5.setCell ⟨w1.heap.size, 0, none⟩ (.slice q3 n3 c3) = W6 := ⟨_, rfl⟩
   obtain ⟨p1, p2, p3, p4, p5⟩ := setCell_any w5 w1.heap.size 0 (.slice q3 n3 c3)
   rw [hW6] at p1 p2 p3 p4 p5
   have hB5 : Below w.heap.size w w5 := HB4.out.trans (hb5.mono HB4.out.size)
   have hB6 : Below w.heap.size w W6 := ⟨p2.trans hB5.os, p3.trans hB5.tape, p4.trans hB5.output, by have := hB5.size; omega, fun b hb => by rw [p5 b (by have := HW1.out; omega)]; exact hB5.block b hb⟩
   have hg6 : W6.heap[w1.heap.size]? = some (.cells #[.slice q3 n3 c3] 24 (0, 0)) := by rw [← hW6, setCell_eq_setRow w5 _ 0 _ 24 (0, 0) _ hg5]; exact setRow_heap w5 _ _ _ 24 _ hg5
   have hl5 : ListIs rQid 2 16 (From W1.heap.size w3) w5 (.slice q3 n3 c3) (lastW (xs.take (i + 1))) := HL4.out.mono mQid (fun _ h => h) (kept_of (fun b h => by have := h.2; have := HG4.out; omega) hb5)
   have hl6 : ListIs rQid 2 16 (From (w1.heap.size + 1) W6) W6 (.slice q3 n3 c3) (lastW (xs.take (i + 1))) := hl5.mono mQid (fun b h => ⟨by have := h.1; have := HGW1.out.2; omega, by have := h.2; have := hb5.size; have := HG4.out; omega⟩) ⟨p2, p3, p4, by omega, fun b h => p5 b (by have := h.1; have := HGW1.out.2; omega)⟩
   have HB6 : Hid (Below w.heap.size w W6) := hB6
   have HG6 : Hid (W6.heap[w1.heap.size]? = some (.cells #[.slice q3 n3 c3] 24 (0, 0))) := hg6
   have HL6 : Hid (ListIs rQid 2 16 (From (w1.heap.size + 1) W6) W6 (.slice q3 n3 c3) (lastW (xs.take (i + 1)))) := hl6
   have HHK : Hid (∀ V, Below W6.heap.size W6 V → Below w.heap.size w V ∧ V.heap[w1.heap.size]? = some (.cells #[.slice q3 n3 c3] 24 (0, 0)) ∧ ListIs rQid 2 16 (From (w1.heap.size + 1) V) V (.slice q3 n3 c3) (lastW (xs.take (i + 1)))) := fun V hb => ⟨hB6.trans (hb.mono hB6.size), by rw [hb.block _ (Array.getElem?_eq_some_iff.1 hg6).1]; exact hg6, hl6.mono mQid (fun b h => ⟨h.1, Nat.lt_of_lt_of_le h.2 hb.size⟩) (kept_of (fun b h => h.2) hb)⟩
   clear hb5 hg5 hx5 p1 p2 p3 p4 p5 hB5 hB6 hg6 hl5 hl6 HL4 CK t0 HBW1 HGW1 HB4 HG4
   go_wp2_with fail
   go_loopg [8] (i + 1) (fun gf s8 wx => ∃ (k : Int), s8 = .int .i64 k ∧ -1 ≤ k ∧ k ≤ (i : Int) ∧ k < (gf : Int) ∧ Hid (Below W6.heap.size W6 wx))
   case atStart => exact ⟨(i : Int), rfl, by omega, by omega, by omega, Below.refl _ _⟩
   case round =>
    obtain ⟨k, rfl, hk1, hk2, hgj, HBk⟩ := hrel
    obtain ⟨hbk, hgk, hlk⟩ := HHK.out wr HBk.out
    by_cases hk0 : 0 ≤ k
    ·by_cases hk16 : (i : Int) - 16 < k
     ·obtain ⟨e', rfl⟩ : ∃ g', gk = g' + 1 := ⟨gk - 1, by omega⟩
      obtain ⟨j, rfl⟩ : ∃ j : Nat, k = (j : Int) := ⟨k.toNat, by omega⟩
      obtain ⟨b', o', y1, y2, eb, hKb', hy, d1, d2⟩ := qat H1.out j (by omega)
      cases eb
      have k0 : wr.cell? ⟨b, o + j * 2, none⟩ = some (.int .u64 y1) := (hbk.cell (p := ⟨b, _, none⟩) (HKK.out _ hKb')).trans d1
      have k1 : wr.cell? ⟨b, o + j * 2 + 1, none⟩ = some (.int .u64 y2) := (hbk.cell (p := ⟨b, _, none⟩) (HKK.out _ hKb')).trans d2
      have s0 := cell_of_row (k := 0) hgk rfl
      have hmem : (y1, y2) ∈ lastW (xs.take (i + 1)) := by rw [← hy]; exact lastW_has xs i j hi (by omega) (by omega)
      have inhL := laterInh
      have HS : Hid (∀ p : LaterS wr.heap.size wr, p.w.cell? ⟨w1.heap.size, 0, none⟩ = some (.slice q3 n3 c3) ∧ p.w.cell? ⟨b, o + j * 2, none⟩ = some (.int .u64 y1) ∧ p.w.cell? ⟨b, o + j * 2 + 1, none⟩ = some (.int .u64 y2)) := fun p => ⟨(p.h.cell (p := ⟨w1.heap.size, 0, none⟩) (Array.getElem?_eq_some_iff.1 hgk).1).trans s0, (p.h.cell (p := ⟨b, _, none⟩) (Nat.lt_of_lt_of_le (HKK.out _ hKb') hbk.size)).trans k0, (p.h.cell (p := ⟨b, _, none⟩) (Nat.lt_of_lt_of_le (HKK.out _ hKb') hbk.size)).trans k1⟩
      have cS : Hid (∀ p : LaterS wr.heap.size wr, Calls Tryz.prog 13 #[.agg #[.slice q3 n3 c3], .agg #[.int .u64 y1, .int .u64 y2]] p.w fun e w' => e = .returned (.bool true) ∧ Below p.w.heap.size p.w w') := fun p => by
       have := has_any (y1, y2) (.slice q3 n3 c3) _ _ p.w (hlk.mono mQid (fun _ h => h) (kept_of (fun b h => h.2) p.h)) (fun b h => Nat.lt_of_lt_of_le h.2 p.h.size)
       rw [decide_eq_true hmem] at this
       exact this
      have qz0 : (0 : Int) ≤ (j : Int) := by omega
      have qz1 : (i : Int) - 16 < (j : Int) := hk16
      have qz2 : (j : Int) < (xs.length : Int) := by omega
      clear hy d1 d2 hbk hgk hlk hmem hKb' k0 k1 s0
      go_wp2_with fail
      have m0 := fun p => (HS.out p).1
      have m1 := fun p => (HS.out p).2.1
      have m2 := fun p => (HS.out p).2.2
      refine wp_region_laterS mixedOnS (by kernel_rfl) ?_
      repeat (go_big_quiet_step ((go_at_call 13; exact calls_laterS (cS.out _))))
      refine wpQuiet_nil ?_
      intro w7 hw'
      obtain ⟨⟨wq, hwq⟩, hw''⟩ := hw'
      have e7 : w7 = wq := hw''
      subst e7
      have HB7 : Hid (Below W6.heap.size W6 w7) := HBk.out.trans (hwq.mono HBk.out.size)
      clear hw'' hwq m0 m1 m2 HS cS HBk
      go_wp2_with fail
      go_roundg e'
      case measure => omega
      case rel => exact ⟨(j : Int) - 1, by go_num, by omega, by omega, by omega, HB7⟩
     ·have HBX : Hid (Below w.heap.size w wr) := hbk
      have HGX : Hid (wr.heap[w1.heap.size]? = some (.cells #[.slice q3 n3 c3] 24 (0, 0))) := hgk
      have HLX : Hid (ListIs rQid 2 16 (From (w1.heap.size + 1) wr) wr (.slice q3 n3 c3) (lastW (xs.take (i + 1)))) := hlk
      have qz0 : (0 : Int) ≤ k := hk0
      have qz1 : ¬ (i : Int) - 16 < k := hk16
      clear hbk hgk hlk
      go_wp2_with fail
      go_roundg g'
      case measure => omega
      case rel => exact ⟨i + 1, q3, n3, c3, by go_num, by omega, by omega, hc3, HBX, HGX, HLX⟩
    ·have HBX : Hid (Below w.heap.size w wr) := hbk
     have HGX : Hid (wr.heap[w1.heap.size]? = some (.cells #[.slice q3 n3 c3] 24 (0, 0))) := hgk
     have HLX : Hid (ListIs rQid 2 16 (From (w1.heap.size + 1) wr) wr (.slice q3 n3 c3) (lastW (xs.take (i + 1)))) := hlk
     have qz0 : ¬ (0 : Int) ≤ k := hk0
     clear hbk hgk hlk
     go_wp2_with fail
     go_roundg g'
     case measure => omega
     case rel => exact ⟨i + 1, q3, n3, c3, by go_num, by omega, by omega, hc3, HBX, HGX, HLX⟩
  ·have z1 : ¬ (i : Int) < (xs.length : Int) := by omega
   clear HG HL
   go_wp2_with fail
   go_ret
   exact ⟨rfl, HB.out⟩
end Go.Proofs.YtajomnfeicfdlaaGreatDoor
