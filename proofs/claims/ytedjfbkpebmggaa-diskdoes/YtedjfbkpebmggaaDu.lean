/- The answers that the document gives: what the law's lives answers. -/
import Derived.Test.YtedjfbkpebmggaaDt
namespace Go.Proofs.Ytedjfbkpebmggaa
open Go.Shelf Go.RowKit Go.Lib Go.Sort
set_option linter.unusedVariables false
set_option linter.unusedSimpArgs false
attribute [local go_sem ↓] Go.wp_at_zero Go.wp_at_succ
theorem lput_any (a b : ByteArray) (w : World) : Calls Try.prog 21 #[.string a, .string b] w fun e w' => e = .returned (.agg #[.int .u8 1, .string a, .string ⟨#[]⟩, .string b]) ∧ Below w.heap.size w w' := by
  go_enter Try.func21, Try.ntmps21
  go_wp2_with fail
  exact bodyPost_ret (v := .agg #[.int .u8 1, .string a, .string ⟨#[]⟩, .string b]) (by simp [results, Try.results21, go_sem]) rfl ⟨rfl, by (repeat (first | exact Below.refl _ _ | refine Below.alloc ?_ (by simp) _ | refine Below.setCell ?_ (by simp) _))⟩
theorem lsync_any (a : ByteArray) (w : World) : Calls Try.prog 31 #[.string a] w fun e w' => e = .returned (.agg #[.int .u8 2, .string a, .string ⟨#[]⟩, .string ⟨#[]⟩]) ∧ Below w.heap.size w w' := by
  go_enter Try.func31, Try.ntmps31
  go_wp2_with fail
  exact bodyPost_ret (v := .agg #[.int .u8 2, .string a, .string ⟨#[]⟩, .string ⟨#[]⟩]) (by simp [results, Try.results31, go_sem]) rfl ⟨rfl, by (repeat (first | exact Below.refl _ _ | refine Below.alloc ?_ (by simp) _ | refine Below.setCell ?_ (by simp) _))⟩
theorem lmove_any (a b : ByteArray) (w : World) : Calls Try.prog 20 #[.string a, .string b] w fun e w' => e = .returned (.agg #[.int .u8 3, .string a, .string b, .string ⟨#[]⟩]) ∧ Below w.heap.size w w' := by
  go_enter Try.func20, Try.ntmps20
  go_wp2_with fail
  exact bodyPost_ret (v := .agg #[.int .u8 3, .string a, .string b, .string ⟨#[]⟩]) (by simp [results, Try.results20, go_sem]) rfl ⟨rfl, by (repeat (first | exact Below.refl _ _ | refine Below.alloc ?_ (by simp) _ | refine Below.setCell ?_ (by simp) _))⟩
/-- A step. -/
structure SP where
  k : Int
  n : ByteArray
  t : ByteArray
  d : ByteArray
def StsIs (w : World) (b o : Nat) (ss : List SP) : Prop :=
  ∀ j (h : j < ss.length), w.cell? ⟨b, o + j * 4, none⟩ = some (.int .u8 ss[j].k) ∧ w.cell? ⟨b, o + j * 4 + 1, none⟩ = some (.string ss[j].n) ∧ w.cell? ⟨b, o + j * 4 + 2, none⟩ = some (.string ss[j].t) ∧ w.cell? ⟨b, o + j * 4 + 3, none⟩ = some (.string ss[j].d)
theorem StsIs.below {w W : World} {b o : Nat} {ss : List SP} (h : StsIs w b o ss) (hlt : b < w.heap.size) (hb : Below w.heap.size w W) : StsIs W b o ss := fun j hj => by
  rw [hb.cell (p := ⟨b, _, none⟩) hlt, hb.cell (p := ⟨b, _, none⟩) hlt, hb.cell (p := ⟨b, _, none⟩) hlt, hb.cell (p := ⟨b, _, none⟩) hlt]; exact h j hj
/-- The four steps that are tried, and what comes of them. -/
def lvS : List SP := [⟨1, ⟨#[97]⟩, ⟨#[]⟩, ⟨#[120, 121]⟩⟩, ⟨2, ⟨#[97]⟩, ⟨#[]⟩, ⟨#[]⟩⟩, ⟨3, ⟨#[97]⟩, ⟨#[98]⟩, ⟨#[]⟩⟩, ⟨1, ⟨#[97]⟩, ⟨#[]⟩, ⟨#[122]⟩⟩]
def nxt (D : DR) (s : SP) : DR := DoR D.fs D.dn D.fu s.k s.n s.t s.d
def lvF : Nat → List DF
  | 0 => []
  | 1 => [⟨⟨#[97]⟩, ⟨#[120, 121]⟩, 0⟩]
  | 2 => [⟨⟨#[97]⟩, ⟨#[120, 121]⟩, 2⟩]
  | 3 => [⟨⟨#[98]⟩, ⟨#[120, 121]⟩, 2⟩]
  | _ => [⟨⟨#[97]⟩, ⟨#[122]⟩, 0⟩, ⟨⟨#[98]⟩, ⟨#[120, 121]⟩, 2⟩]
theorem lv_step : ∀ i (h : i < lvS.length), DoR (lvF i) false (-1) lvS[i].k lvS[i].n lvS[i].t lvS[i].d = ⟨lvF (i + 1), false, -1, 0⟩
  | 0, _ => by kernel_rfl
  | 1, _ => by kernel_rfl
  | 2, _ => by kernel_rfl
  | 3, _ => by kernel_rfl
theorem lv_small : ∀ i (h : i < lvS.length), lvS[i].n.size ≤ 140737488355328 ∧ lvS[i].t.size ≤ 140737488355328 ∧ lvS[i].d.size ≤ 140737488355328 ∧ ((lvF i).length + 1) * 40 ≤ 140737488355328
  | 0, _ => ⟨Nat.le_of_ble_eq_true rfl, Nat.le_of_ble_eq_true rfl, Nat.le_of_ble_eq_true rfl, Nat.le_of_ble_eq_true rfl⟩
  | 1, _ => ⟨Nat.le_of_ble_eq_true rfl, Nat.le_of_ble_eq_true rfl, Nat.le_of_ble_eq_true rfl, Nat.le_of_ble_eq_true rfl⟩
  | 2, _ => ⟨Nat.le_of_ble_eq_true rfl, Nat.le_of_ble_eq_true rfl, Nat.le_of_ble_eq_true rfl, Nat.le_of_ble_eq_true rfl⟩
  | 3, _ => ⟨Nat.le_of_ble_eq_true rfl, Nat.le_of_ble_eq_true rfl, Nat.le_of_ble_eq_true rfl, Nat.le_of_ble_eq_true rfl⟩
theorem lv_crash : CrR (lvF 4) 0 = ⟨[⟨⟨#[97]⟩, ⟨#[]⟩, 0⟩, ⟨⟨#[98]⟩, ⟨#[120, 121]⟩, 2⟩], false, -1, 0⟩ := by kernel_rfl
theorem lv_reads : rdS [⟨⟨#[97]⟩, ⟨#[]⟩, 0⟩, ⟨⟨#[98]⟩, ⟨#[120, 121]⟩, 2⟩] false ⟨#[97]⟩ = ⟨#[]⟩ ∧ rdE [⟨⟨#[97]⟩, ⟨#[]⟩, 0⟩, ⟨⟨#[98]⟩, ⟨#[120, 121]⟩, 2⟩] false ⟨#[97]⟩ = 0 ∧ rdS [⟨⟨#[97]⟩, ⟨#[]⟩, 0⟩, ⟨⟨#[98]⟩, ⟨#[120, 121]⟩, 2⟩] false ⟨#[98]⟩ = ⟨#[120, 121]⟩ ∧ rdE [⟨⟨#[97]⟩, ⟨#[]⟩, 0⟩, ⟨⟨#[98]⟩, ⟨#[120, 121]⟩, 2⟩] false ⟨#[98]⟩ = 0 ∧ rdE [⟨⟨#[97]⟩, ⟨#[]⟩, 0⟩, ⟨⟨#[98]⟩, ⟨#[120, 121]⟩, 2⟩] false ⟨#[99]⟩ = 7 ∧ chE [⟨⟨#[]⟩, ⟨#[]⟩, 0⟩] = 6 := ⟨by kernel_rfl, by kernel_rfl, by kernel_rfl, by kernel_rfl, by kernel_rfl, by kernel_rfl⟩
/-- A disk in a block of its own. -/
def DJ (w0 : World) (g : Nat) (fs : List DF) (dn : Bool) (fu : Int) (wx : World) : Prop :=
  ∃ p n c, wx.heap[g]? = some (.cells #[.slice p n c, .bool dn, .int .i64 fu] 24 (0, 0)) ∧ FsL wx (.slice p n c) fs ∧ Below w0.heap.size w0 wx
theorem DJ.below {w0 wx wy : World} {g : Nat} {fs : List DF} {dn : Bool} {fu : Int} (h : DJ w0 g fs dn fu wx) (hb : Below wx.heap.size wx wy) : DJ w0 g fs dn fu wy := by
  obtain ⟨p, n, c, hg, hl, h0⟩ := h
  exact ⟨p, n, c, by rw [hb.block _ (Array.getElem?_eq_some_iff.1 hg).1]; exact hg, hl.below hb, h0.trans (hb.mono h0.size)⟩
theorem StsIs.but {w W : World} {b o g : Nat} {ss : List SP} (h : StsIs w b o ss) (hne : b ≠ g) (hk : ∀ m, m ≠ g → W.heap[m]? = w.heap[m]?) : StsIs W b o ss := fun j hj => by
  have e : ∀ q, W.cell? ⟨b, q, none⟩ = w.cell? ⟨b, q, none⟩ := fun q => World.cell?_of_block (hk b hne)
  rw [e, e, e, e]; exact h j hj
set_option maxRecDepth 100000 in
set_option maxHeartbeats 4000000 in
theorem lives_any (w : World) : Calls Try.prog 16 #[] w fun e w' => e = .returned (.bool true) ∧ Below w.heap.size w w' := by
  have CP : Hid (∀ a b W, Calls Try.prog 21 #[.string a, .string b] W fun e w' => e = .returned (.agg #[.int .u8 1, .string a, .string ⟨#[]⟩, .string b]) ∧ Below W.heap.size W w') := lput_any
  have CS : Hid (∀ a W, Calls Try.prog 31 #[.string a] W fun e w' => e = .returned (.agg #[.int .u8 2, .string a, .string ⟨#[]⟩, .string ⟨#[]⟩]) ∧ Below W.heap.size W w') := lsync_any
  have CM : Hid (∀ a b W, Calls Try.prog 20 #[.string a, .string b] W fun e w' => e = .returned (.agg #[.int .u8 3, .string a, .string b, .string ⟨#[]⟩]) ∧ Below W.heap.size W w') := lmove_any
  obtain ⟨W0, hW0⟩ : ∃ W0, w.alloc (.cells #[.slice none 0 0, .bool false, .int .i64 (-1)] 24) = W0 := ⟨_, rfl⟩
  have HJ0 : Hid (DJ w w.heap.size (lvF 0) false (-1) W0) := by
    refine ⟨none, 0, 0, by rw [← hW0]; exact heap_alloc_new w _, ⟨none, 0, rfl, by simp [lvF], fun f hf => by simp [lvF] at hf, fun h => by simp [lvF] at h⟩, by rw [← hW0]; exact one_below _ _⟩
  go_enter Try.func16, Try.ntmps16
  go_wp2_with fail
  refine (CP.out _ _ _).mono ?_
  rintro e w1 ⟨rfl, hb1⟩
  have HJ1 : Hid (DJ w w.heap.size (lvF 0) false (-1) w1) := HJ0.out.below hb1
  clear hb1 HJ0
  go_wp2_with fail
  refine (CS.out _ _).mono ?_
  rintro e w2 ⟨rfl, hb2⟩
  have HJ2 : Hid (DJ w w.heap.size (lvF 0) false (-1) w2) := HJ1.out.below hb2
  clear hb2 HJ1
  go_wp2_with fail
  refine (CM.out _ _ _).mono ?_
  rintro e w3 ⟨rfl, hb3⟩
  have HJ3 : Hid (DJ w w.heap.size (lvF 0) false (-1) w3) := HJ2.out.below hb3
  clear hb3 HJ2
  go_wp2_with fail
  refine (CP.out _ _ _).mono ?_
  rintro e w4 ⟨rfl, hb4⟩
  have HJ4 : Hid (DJ w w.heap.size (lvF 0) false (-1) w4) := HJ3.out.below hb4
  obtain ⟨W5, hW5⟩ : ∃ W5, w4.alloc (.cells #[.int .u8 1, .string ⟨#[97]⟩, .string ⟨#[]⟩, .string ⟨#[120, 121]⟩, .int .u8 2, .string ⟨#[97]⟩, .string ⟨#[]⟩, .string ⟨#[]⟩, .int .u8 3, .string ⟨#[97]⟩, .string ⟨#[98]⟩, .string ⟨#[]⟩, .int .u8 1, .string ⟨#[97]⟩, .string ⟨#[]⟩, .string ⟨#[122]⟩] 27) = W5 := ⟨_, rfl⟩
  obtain ⟨sb, hsb⟩ : ∃ sb, w4.heap.size = sb := ⟨_, rfl⟩
  have HJ5 : Hid (DJ w w.heap.size (lvF 0) false (-1) W5) := by rw [← hW5]; exact HJ4.out.below (one_below _ _)
  have HST : Hid (StsIs W5 sb 0 lvS ∧ sb < W5.heap.size ∧ sb ≠ w.heap.size) := by
    have hg : W5.heap[sb]? = some (.cells #[.int .u8 1, .string ⟨#[97]⟩, .string ⟨#[]⟩, .string ⟨#[120, 121]⟩, .int .u8 2, .string ⟨#[97]⟩, .string ⟨#[]⟩, .string ⟨#[]⟩, .int .u8 3, .string ⟨#[97]⟩, .string ⟨#[98]⟩, .string ⟨#[]⟩, .int .u8 1, .string ⟨#[97]⟩, .string ⟨#[]⟩, .string ⟨#[122]⟩] 27 (0, 0)) := by rw [← hW5, ← hsb]; exact heap_alloc_new w4 _
    have hlt : w.heap.size < w4.heap.size := by obtain ⟨p, n, c, hgg, _⟩ := HJ4.out; exact (Array.getElem?_eq_some_iff.1 hgg).1
    refine ⟨fun j hj => ?_, (Array.getElem?_eq_some_iff.1 hg).1, by omega⟩
    match j, hj with
    | 0, _ => exact ⟨cell_of_row hg rfl, cell_of_row hg rfl, cell_of_row hg rfl, cell_of_row hg rfl⟩
    | 1, _ => exact ⟨cell_of_row hg rfl, cell_of_row hg rfl, cell_of_row hg rfl, cell_of_row hg rfl⟩
    | 2, _ => exact ⟨cell_of_row hg rfl, cell_of_row hg rfl, cell_of_row hg rfl, cell_of_row hg rfl⟩
    | 3, _ => exact ⟨cell_of_row hg rfl, cell_of_row hg rfl, cell_of_row hg rfl, cell_of_row hg rfl⟩
  clear hb4 HJ3 HJ4 CP CS CM
  go_wp2_with fail
  go_loopg [2, 21] 4 (fun gf s2 s21 wx => ∃ i : Nat, s2 = .int .i64 0 ∧ s21 = .int .i64 i ∧ i ≤ 4 ∧ 4 ≤ i + gf ∧ Hid (DJ w w.heap.size (lvF i) false (-1) wx) ∧ Hid (StsIs wx sb 0 lvS ∧ sb < wx.heap.size ∧ sb ≠ w.heap.size))
  case atStart => exact ⟨0, rfl, rfl, by omega, by omega, HJ5, HST⟩
  case round =>
    clear HJ5 HST
    obtain ⟨i, rfl, rfl, hi1, hgf, HJ, HST⟩ := hrel
    by_cases hi : i < 4
    · obtain ⟨g', rfl⟩ : ∃ g', gk = g' + 1 := ⟨gk - 1, by omega⟩
      have hil : i < lvS.length := hi
      obtain ⟨hst, hsl, hsn⟩ := HST.out
      obtain ⟨c0, c1, c2, c3⟩ := hst i hil
      have hstep := lv_step i hil
      obtain ⟨m1, m2, m3, m4⟩ := lv_small i hil
      obtain ⟨⟨kk, nm, tt, dt⟩, hss⟩ : ∃ s, lvS[i] = s := ⟨_, rfl⟩
      rw [hss] at c0 c1 c2 c3 hstep m1 m2 m3
      simp only [Nat.zero_add] at c0 c1 c2 c3 hstep m1 m2 m3
      obtain ⟨W6, hW6⟩ : ∃ W6, wr.alloc (.cells #[.int .u8 kk, .string nm, .string tt, .string dt] 27) = W6 := ⟨_, rfl⟩
      have hb6 : Below wr.heap.size wr W6 := by rw [← hW6]; exact one_below _ _
      have hJ6 := HJ.out.below hb6
      have hst6 := hst.below hsl hb6
      have hsl6 : sb < W6.heap.size := Nat.lt_of_lt_of_le hsl hb6.size
      obtain ⟨p, n, c, hg6, hl6, hb06⟩ := hJ6
      have a0 := cell_of_row (k := 0) hg6 rfl
      have a1 := cell_of_row (k := 1) hg6 rfl
      have a2 := cell_of_row (k := 2) hg6 rfl
      have hgx : W6.heap[wr.heap.size]? = some (.cells #[.int .u8 kk, .string nm, .string tt, .string dt] 27 (0, 0)) := by rw [← hW6]; exact heap_alloc_new wr _
      have b0 := cell_of_row (k := 0) hgx rfl
      have b1 := cell_of_row (k := 1) hgx rfl
      have b2 := cell_of_row (k := 2) hgx rfl
      have b3 := cell_of_row (k := 3) hgx rfl
      have CD := Do_any (.slice p n c) false (-1) kk nm tt dt (lvF i) W6 hl6 m4 (by omega) m1 m2 m3
      rw [hstep] at CD
      have HC : Hid (Calls Try.prog 10 #[.agg #[.slice p n c, .bool false, .int .i64 (-1)], .agg #[.int .u8 kk, .string nm, .string tt, .string dt]] W6 fun e w' => Did ⟨lvF (i + 1), false, -1, 0⟩ W6 e w') := CD
      have HK : Hid (StsIs W6 sb 0 lvS ∧ sb < W6.heap.size ∧ sb ≠ w.heap.size ∧ W6.heap[w.heap.size]? = some (.cells #[.slice p n c, .bool false, .int .i64 (-1)] 24 (0, 0)) ∧ Below w.heap.size w W6) := ⟨hst6, hsl6, hsn, hg6, hb06⟩
      have z0 : (0 : Int) ≤ (i : Int) := by omega
      have z1 : (i : Int) < 4 := by omega
      clear hst hsl hsn hst6 hsl6 hg6 hl6 hb06 hgx hb6 hstep CD m1 m2 m3 m4 hss HJ HST hil
      go_wp2_with fail
      refine HC.out.mono ?_
      rintro e w7 ⟨p7, n7, c7, rfl, hl7, hb7⟩
      obtain ⟨k1, k2, k3, k4, k5⟩ := HK.out
      have hg7 : w7.heap[w.heap.size]? = some (.cells #[.slice p n c, .bool false, .int .i64 (-1)] 24 (0, 0)) := by rw [hb7.block _ (Array.getElem?_eq_some_iff.1 k4).1]; exact k4
      obtain ⟨Va, Vb, Vc, hVa, hVb, hVc, ⟨pa, ka⟩, ga, ⟨pb, kb⟩, gb, ⟨pc, kc⟩, gc, hbv, hgv, r0, r1, r2⟩ := set_disk hg7 (.slice p7 n7 c7) (.bool false) (.int .i64 (-1))
      obtain ⟨o5, o6⟩ := set3_other hVa hVb hVc
      have HJ2 : Hid (DJ w w.heap.size (lvF (i + 1)) false (-1) Vc) := ⟨p7, n7, c7, hgv, hl7.but hg7 o5 o6, hbv _ _ (k5.trans (hb7.mono k5.size)) (Nat.le_refl _)⟩
      have HST2 : Hid (StsIs Vc sb 0 lvS ∧ sb < Vc.heap.size ∧ sb ≠ w.heap.size) := ⟨(k1.below k2 hb7).but k3 o5, Nat.lt_of_lt_of_le (Nat.lt_of_lt_of_le k2 hb7.size) o6, k3⟩
      clear hl7 hb7 k1 k2 k3 k4 k5 hg7 hbv hgv o5 o6 HK HC a0 a1 a2 b0 b1 b2 b3 c0 c1 c2 c3
      go_wp2_with fail
      go_roundg g'
      case measure => omega
      case rel => exact ⟨i + 1, rfl, by go_num, by omega, by omega, HJ2, HST2⟩
    · have hi4 : i = 4 := by omega
      subst hi4
      obtain ⟨p, n, c, hg, hl, hb⟩ := HJ.out
      have a0 := cell_of_row (k := 0) hg rfl
      have a1 := cell_of_row (k := 1) hg rfl
      have a2 := cell_of_row (k := 2) hg rfl
      have CC := Crash_any (.slice p n c) false (-1) 0 (lvF 4) wr hl
      rw [lv_crash] at CC
      obtain ⟨F5, hF5⟩ : ∃ F5 : List DF, F5 = [⟨⟨#[97]⟩, ⟨#[]⟩, 0⟩, ⟨⟨#[98]⟩, ⟨#[120, 121]⟩, 2⟩] := ⟨_, rfl⟩
      obtain ⟨l1, l2, l3, l4, l5, l6⟩ := lv_reads
      rw [← hF5] at CC l1 l2 l3 l4 l5
      have HC : Hid (Calls Try.prog 14 #[.agg #[.slice p n c, .bool false, .int .i64 (-1)], .int .i64 0] wr fun e w' => Did ⟨F5, false, -1, 0⟩ wr e w') := CC
      have HB : Hid (Below w.heap.size w wr) := hb
      have HR : Hid (∀ p n c W, FsL W (.slice p n c) F5 → ∀ nm, Calls Try.prog 12 #[.agg #[.slice p n c, .bool false, .int .i64 (-1)], .string nm] W fun e w' => e = .returned (.tuple #[.string (rdS F5 false nm), .int .i64 (rdE F5 false nm)]) ∧ Below W.heap.size W w') := fun p n c W h nm => Read_any (.slice p n c) false (-1) nm F5 W h
      have HRA : Hid (rdS F5 false ⟨#[97]⟩ = ⟨#[]⟩ ∧ rdE F5 false ⟨#[97]⟩ = 0 ∧ rdS F5 false ⟨#[98]⟩ = ⟨#[120, 121]⟩ ∧ rdE F5 false ⟨#[98]⟩ = 0 ∧ rdE F5 false ⟨#[99]⟩ = 7 ∧ chE [⟨⟨#[]⟩, ⟨#[]⟩, 0⟩] = 6) := ⟨l1, l2, l3, l4, l5, l6⟩
      clear HJ HST hl hb CC l1 l2 l3 l4 l5 l6 hF5 hg
      go_wp2_with fail
      refine HC.out.mono ?_
      rintro e w7 ⟨p7, n7, c7, rfl, hl7, hb7⟩
      obtain ⟨W8, hW8⟩ : ∃ W8, w7.alloc (.cells #[.slice p7 n7 c7, .bool false, .int .i64 (-1)] 24) = W8 := ⟨_, rfl⟩
      have hb8 : Below w7.heap.size w7 W8 := by rw [← hW8]; exact one_below _ _
      have hg8 : W8.heap[w7.heap.size]? = some (.cells #[.slice p7 n7 c7, .bool false, .int .i64 (-1)] 24 (0, 0)) := by rw [← hW8]; exact heap_alloc_new w7 _
      have HJ8 : Hid (DJ w w7.heap.size F5 false (-1) W8 ∧ W8.heap[w7.heap.size]? = some (.cells #[.slice p7 n7 c7, .bool false, .int .i64 (-1)] 24 (0, 0)) ∧ FsL W8 (.slice p7 n7 c7) F5) := ⟨⟨p7, n7, c7, hg8, hl7.below hb8, HB.out.trans ((hb7.trans (hb8.mono hb7.size)).mono HB.out.size)⟩, hg8, hl7.below hb8⟩
      have d0 := cell_of_row (k := 0) hg8 rfl
      have d1 := cell_of_row (k := 1) hg8 rfl
      have d2 := cell_of_row (k := 2) hg8 rfl
      have R1 := HR.out _ _ _ W8 (hl7.below hb8) ⟨#[97]⟩
      rw [HRA.out.1, HRA.out.2.1] at R1
      clear hl7 hb7 hb8 hg8 HC a0 a1 a2
      go_wp2_with fail
      refine R1.mono ?_
      rintro e w9 ⟨rfl, hb9⟩
      obtain ⟨j1, j2, j3⟩ := HJ8.out
      have hg9 : w9.heap[w7.heap.size]? = some (.cells #[.slice p7 n7 c7, .bool false, .int .i64 (-1)] 24 (0, 0)) := by rw [hb9.block _ (Array.getElem?_eq_some_iff.1 j2).1]; exact j2
      have HJ9 : Hid (DJ w w7.heap.size F5 false (-1) w9 ∧ w9.heap[w7.heap.size]? = some (.cells #[.slice p7 n7 c7, .bool false, .int .i64 (-1)] 24 (0, 0)) ∧ FsL w9 (.slice p7 n7 c7) F5) := ⟨j1.below hb9, hg9, j3.below hb9⟩
      have d0 := cell_of_row (k := 0) hg9 rfl
      have d1 := cell_of_row (k := 1) hg9 rfl
      have d2 := cell_of_row (k := 2) hg9 rfl
      have R2 := HR.out _ _ _ w9 (j3.below hb9) ⟨#[98]⟩
      rw [HRA.out.2.2.1, HRA.out.2.2.2.1] at R2
      clear j1 j2 j3 hb9 hg9 R1 HJ8
      go_wp2_with fail
      refine R2.mono ?_
      rintro e wA ⟨rfl, hbA⟩
      obtain ⟨j1, j2, j3⟩ := HJ9.out
      have hgA : wA.heap[w7.heap.size]? = some (.cells #[.slice p7 n7 c7, .bool false, .int .i64 (-1)] 24 (0, 0)) := by rw [hbA.block _ (Array.getElem?_eq_some_iff.1 j2).1]; exact j2
      have HJA : Hid (DJ w w7.heap.size F5 false (-1) wA ∧ wA.heap[w7.heap.size]? = some (.cells #[.slice p7 n7 c7, .bool false, .int .i64 (-1)] 24 (0, 0)) ∧ FsL wA (.slice p7 n7 c7) F5) := ⟨j1.below hbA, hgA, j3.below hbA⟩
      have d0 := cell_of_row (k := 0) hgA rfl
      have d1 := cell_of_row (k := 1) hgA rfl
      have d2 := cell_of_row (k := 2) hgA rfl
      have R3 := HR.out _ _ _ wA (j3.below hbA) ⟨#[99]⟩
      obtain ⟨ss, hss⟩ : ∃ ss, rdS F5 false ⟨#[99]⟩ = ss := ⟨_, rfl⟩
      rw [hss, HRA.out.2.2.2.2.1] at R3
      clear j1 j2 j3 hbA hgA R2 HJ9 hss
      go_wp2_with fail
      refine R3.mono ?_
      rintro e wB ⟨rfl, hbB⟩
      have HBB : Hid (Below w.heap.size w wB) := by obtain ⟨⟨_, _, _, _, _, hb0⟩, _⟩ := HJA.out; exact hb0.trans (hbB.mono hb0.size)
      clear hbB R3 HJA
      have CK : Hid (∀ W g, W.heap[g]? = some (.cells #[.string ⟨#[]⟩, .string ⟨#[]⟩, .int .i64 0] 41 (0, 0)) → Calls Try.prog 18 #[.agg #[.slice (some ⟨g, 0, none⟩) 1 1, .bool false, .int .i64 0]] W fun e w' => e = .returned (.int .i64 6) ∧ Below W.heap.size W w') := fun W g hg => by
        have := check_any (.slice (some ⟨g, 0, none⟩) 1 1) false 0 [⟨⟨#[]⟩, ⟨#[]⟩, 0⟩] W ⟨_, 1, rfl, by simp, fun f hf => by simp at hf; subst hf; exact ⟨(show (0 : Nat) ≤ _ from Nat.zero_le _), (show (0 : Nat) ≤ _ from Nat.zero_le _)⟩, fun _ => ⟨g, 0, rfl, (Array.getElem?_eq_some_iff.1 hg).1, fun j hj => by
          match j, hj with
          | 0, _ => exact ⟨cell_of_row hg rfl, cell_of_row hg rfl, cell_of_row hg rfl⟩⟩⟩
        rw [HRA.out.2.2.2.2.2] at this
        exact this
      go_wp2_with fail
      refine (CK.out _ _ (heap_alloc_new _ _)).mono ?_
      rintro e wC ⟨rfl, hbC⟩
      have HBC : Hid (Below w.heap.size w wC) := (HBB.out.alloc HBB.out.size _).trans (hbC.mono (by have := HBB.out.size; simp; omega))
      clear hbC
      go_wp2_with fail
      go_ret
      exact ⟨rfl, HBC.out⟩
end Go.Proofs.Ytedjfbkpebmggaa
