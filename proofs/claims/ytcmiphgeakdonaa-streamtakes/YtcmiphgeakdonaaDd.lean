/- A stream that is received, copied by the reference. -/
import Derived.Test.YtcmiphgeakdonaaDc
namespace Go.Proofs.Ytcmiphgeakdonaa
open Go.Shelf Go.RowKit Go.Lib Go.Sort
set_option linter.unusedVariables false
set_option linter.unusedSimpArgs false
attribute [local go_sem ↓] Go.wp_at_zero Go.wp_at_succ
set_option maxRecDepth 100000 in
set_option maxHeartbeats 4000000 in
theorem copyRowsO (v : Value) (xs : List (List Val)) (K : Nat → Prop) (w : World) (h : ListIs rRow 1 24 K w v xs) (hK : ∀ b, K b → b < w.heap.size) :
    Calls Try.prog 25 #[v] w fun e w' => ∃ u, e = .returned u ∧ OwnR rRow 1 96 w.heap.size w' u xs ∧ Below w.heap.size w w' := by
  obtain ⟨p, c, rfl, ⟨hby, hcap⟩, hp⟩ := h
  have HP : Hid _ := hp
  have HKK : Hid (∀ b, K b → b < w.heap.size) := hK
  have HBY : Hid (xs.length * 24 ≤ 140737488355328) := hby
  have HJ : Hid (OwnR rRow 1 96 w.heap.size w (.slice none 0 0) (xs.take 0)) := OwnR.none (World.ownsRow_nil _ _ _ _)
  obtain ⟨j0, hj0, hj1, hj2, hj3⟩ := inE_row
  obtain ⟨k0, hk0, hk1, hk2, hk3⟩ := inE_val
  have hx63 : xs.length ≤ 140737488355328 := by omega
  clear hp hK hby hcap
  go_enter Try.func25, Try.ntmps25
  go_wp2_with fail
  go_loopg [3, 8] xs.length (fun gf s3 s8 wx => ∃ (u : Value) (i : Nat), u = s3 ∧ s8 = .int .i64 i ∧ i ≤ xs.length ∧ xs.length ≤ i + gf ∧ Hid (OwnR rRow 1 96 w.heap.size wx u (xs.take i)) ∧ Hid (Below w.heap.size w wx))
  case atStart => exact ⟨_, 0, rfl, rfl, by omega, by omega, HJ, Below.refl _ _⟩
  case round =>
    clear HJ
    obtain ⟨u, i, rfl, rfl, hi1, hgf, HJ, HB⟩ := hrel
    by_cases hi : i < xs.length
    · obtain ⟨g', rfl⟩ : ∃ g', gk = g' + 1 := ⟨gk - 1, by omega⟩
      obtain ⟨b, o, rfl, hKb, hc⟩ := HP.out (by omega)
      obtain ⟨cs, hcl, hcell, hrel1⟩ := hc i hi
      have htk : xs.take (i + 1) = xs.take i ++ [xs[i]] := List.take_succ_eq_append_getElem hi
      obtain ⟨x, hx⟩ : ∃ x, xs[i] = x := ⟨_, rfl⟩
      rw [hx] at hrel1 htk
      obtain ⟨vr, rfl, hl⟩ := hrel1
      have hbw := HB.out
      have c0 : wr.cell? ⟨b, o + i, none⟩ = some vr := by
        rw [hbw.cell (p := ⟨b, _, none⟩) (HKK.out _ hKb)]
        have := hcell 0 vr rfl
        simpa using this
      have hlw : ListIs rVal 4 32 K wr vr x := ListIs.later mVal hl HKK.out hbw
      obtain ⟨Y, hY⟩ : ∃ Y, wr.alloc (.cells #[] 126) = Y := ⟨_, rfl⟩
      have hbY : Below wr.heap.size wr Y := by rw [← hY]; exact (Below.refl _ _).alloc (Nat.le_refl _) _
      have hgY : Y.heap[wr.heap.size]? = some (.cells #[] 126 (0, 0)) := by rw [← hY]; exact heap_alloc_new wr _
      obtain ⟨X, p1, c1, hC⟩ := cpy_list fVal Try.underlying96 hk0 hk1 hk2 hk3 rfl (by omega) (by omega) hgY (ListIs.later mVal hlw (fun b hb => Nat.lt_of_lt_of_le (HKK.out b hb) hbw.size) hbY)
      have hbX : Below wr.heap.size wr X := hC.below _ _ hbY (Nat.le_refl _)
      have hJX := HJ.out.keep mRow hbX
      have hlen : (xs.take i).length = i := by simp; omega
      have hmx : i + 1 ≤ maxLen := by have := HBY.out; unfold maxLen; omega
      have hb24 : (i + 1) * 24 ≤ 140737488355328 := by have := HBY.out; omega
      obtain ⟨v', X2, e2, hJ2, hb2, hs2, hold2⟩ := OwnR.push mRow Try.underlying30 hj0 hj1 hj2 hj3 rfl (by omega) hJX (Nat.le_trans hbw.size hbX.size) (cs := [.slice p1 x.length c1]) (x := x) (K2 := From wr.heap.size X) rfl (fun c hc => by simp at hc; subst hc; rfl)
        (fun b hb => ⟨Nat.le_trans hbw.size hb.1, hb.2, fun e => by obtain ⟨_, _, _, ho, _⟩ := HJ.out; have := (ho.lt _ e).2; have := hb.1; omega⟩) ⟨_, rfl, hC.list⟩ (by rw [hlen]; exact hb24) (by rw [hlen]; exact hmx)
      have hRUN1 := hC.run
      have HJ2 : Hid (OwnR rRow 1 96 w.heap.size X2 v' (xs.take (i + 1))) := by rw [htk]; exact hJ2
      have HB2 : Hid (Below w.heap.size w X2) := hb2 _ _ (hbw.trans (hbX.mono hbw.size)) (Nat.le_refl _)
      have z0 : (0 : Int) ≤ (i : Int) := by omega
      have z1 : (i : Int) < (xs.length : Int) := by omega
      obtain ⟨pr, cr, rfl, _, _⟩ := id hl
      clear hc hcell hx HJ HB hKb hcl hbw hlw hbY hgY hbX hJX hlen hmx hb24 hJ2 hb2 hs2 hold2 hl htk hC
      go_wp2_with (first | (at_builtin; refine Lib.wpList_append_run _ rfl _ _ _ _ rfl _ _ rfl rfl _ _ hRUN1 ?_) | (at_builtin; refine Lib.wpList_append_run _ rfl _ _ _ _ rfl _ _ rfl rfl _ _ e2 ?_))
      go_roundg g'
      case measure => omega
      case rel => exact ⟨_, i + 1, rfl, by go_num, by omega, by omega, HJ2, HB2⟩
    · have z1 : ¬ (i : Int) < (xs.length : Int) := by omega
      have hJ := HJ.out
      rw [List.take_of_length_le (by omega)] at hJ
      have HF : Hid (OwnR rRow 1 96 w.heap.size wr u xs ∧ Below w.heap.size w wr) := ⟨hJ, HB.out⟩
      clear HJ hJ HB
      go_wp2_with fail
      go_ret
      exact ⟨_, rfl, HF.out⟩
set_option maxRecDepth 100000 in
set_option maxHeartbeats 4000000 in
theorem copyInO (K : Nat → Prop) (w : World) (cs : List Value) (x : In_) (h : rIn K w cs x) (hK : ∀ b, K b → b < w.heap.size) :
    Calls Try.prog 17 #[.agg cs.toArray] w fun e w' => ∃ p1 r1 p2 r2, e = .returned (.agg #[.int .u64 (x.m.qb : Int), .int .u64 (x.m.qn : Int), .int .i64 x.m.at_, .int .i64 x.m.fr, .int .i64 x.m.tq, .int .u64 (x.n : Int), .slice p1 x.h.length r1, .slice p2 x.r.length r2, .bool x.d]) ∧ OwnI (fun b => b < w'.heap.size) w.heap.size w' (.slice p1 x.h.length r1) (.slice p2 x.r.length r2) x.h x.r ∧ Below w.heap.size w w' := by
  obtain ⟨v1, v2, rfl, q1, n1, n2⟩ := h
  have HL1 : Hid (ListIs rBat 3 40 K w v1 x.h) := n1
  have HL2 : Hid (ListIs rRow 1 24 K w v2 x.r) := n2
  obtain ⟨za1, ya1, rfl, nn1, mm1⟩ := id n1
  obtain ⟨za2, ya2, rfl, nn2, mm2⟩ := id n2
  show Calls Try.prog 17 #[.agg #[.int .u64 (x.m.qb : Int), .int .u64 (x.m.qn : Int), .int .i64 x.m.at_, .int .i64 x.m.fr, .int .i64 x.m.tq, .int .u64 (x.n : Int), .slice za1 x.h.length ya1, .slice za2 x.r.length ya2, .bool x.d]] w _
  have HK : Hid (∀ b, K b → b < w.heap.size) := hK
  have HQ : Hid (okS x.m ∧ x.n < 18446744073709551616) := q1
  obtain ⟨W0, hW0, t0, hs0⟩ := Two.start w 68 #[.int .u64 (x.m.qb : Int), .int .u64 (x.m.qn : Int), .int .i64 x.m.at_, .int .i64 x.m.fr, .int .i64 x.m.tq, .int .u64 (x.n : Int), .slice za1 x.h.length ya1, .slice za2 x.r.length ya2, .bool x.d] #[.int .u64 0, .int .u64 0, .int .i64 0, .int .i64 0, .int .i64 0, .int .u64 0, .slice none 0 0, .slice none 0 0, .bool false] rfl
  have HT0 : Hid (Two 68 [.int .u64 (x.m.qb : Int), .int .u64 (x.m.qn : Int), .int .i64 x.m.at_, .int .i64 x.m.fr, .int .i64 x.m.tq, .int .u64 (x.n : Int), .slice za1 x.h.length ya1, .slice za2 x.r.length ya2, .bool x.d] w W0) := t0
  have HBY : Hid (x.h.length * 40 ≤ 140737488355328) := nn1.1
  obtain ⟨j0, hj0, hj1, hj2, hj3⟩ := inE_bat
  have hx63 : x.h.length ≤ 3518437208883 := by have := nn1.1; omega
  clear t0 hK nn1 mm1 n1 nn2 mm2 n2 q1
  go_enter Try.func17, Try.ntmps17
  have c1 := HT0.out.cell (k := 6) (v := .slice za1 x.h.length ya1) rfl
  have HJ : Hid (OwnR rBat 3 91 W0.heap.size W0 (.slice none 0 0) (x.h.take 0)) := OwnR.none (World.ownsRow_nil _ _ _ _)
  go_wp2_with fail
  clear c1 hW0
  go_loopg [3, 9] x.h.length (fun gf s3 s9 wx => ∃ (u : Value) (i : Nat), u = s3 ∧ s9 = .int .i64 i ∧ i ≤ x.h.length ∧ x.h.length ≤ i + gf ∧ Hid (OwnR rBat 3 91 W0.heap.size wx u (x.h.take i)) ∧ Hid (Below W0.heap.size W0 wx))
  case atStart => exact ⟨_, 0, rfl, rfl, by omega, by omega, HJ, Below.refl _ _⟩
  case round =>
    clear HJ
    obtain ⟨u, i, rfl, rfl, hi1, hgf, HJ, HB⟩ := hrel
    by_cases hi : i < x.h.length
    · obtain ⟨g', rfl⟩ : ∃ g', gk = g' + 1 := ⟨gk - 1, by omega⟩
      have hbw := HB.out
      have hBw : Below w.heap.size w wr := HT0.out.2.2.trans (hbw.mono HT0.out.2.2.size)
      obtain ⟨bb, o, pb, cb, rfl, hKb, e0, e1, e2, hs64, hlb⟩ := bat_at (ListIs.later mBat HL1.out HK.out hBw) i hi
      have htk : x.h.take (i + 1) = x.h.take i ++ [x.h[i]] := List.take_succ_eq_append_getElem hi
      obtain ⟨y, hy⟩ : ∃ y, x.h[i] = y := ⟨_, rfl⟩
      rw [hy] at e0 e1 e2 hs64 hlb htk
      obtain ⟨X, hX⟩ : ∃ X, wr.alloc (.cells #[.int .u64 (y.s : Int), .bool y.l, .slice pb y.r.length cb] 91) = X := ⟨_, rfl⟩
      have hbX : Below wr.heap.size wr X := by rw [← hX]; exact (Below.refl _ _).alloc (Nat.le_refl _) _
      have hgX : X.heap[wr.heap.size]? = some (.cells #[.int .u64 (y.s : Int), .bool y.l, .slice pb y.r.length cb] 91 (0, 0)) := by rw [← hX]; exact heap_alloc_new wr _
      have hsX : X.heap.size = wr.heap.size + 1 := by rw [← hX]; simp
      have CC := hid (copyRows_any _ y.r K X (ListIs.later mRow hlb (fun b hb => Nat.lt_of_lt_of_le (HK.out b hb) hBw.size) hbX) (fun b hb => by have := HK.out b hb; have := hBw.size; omega))
      have x2 := cell_of_row (k := 2) (v := .slice pb y.r.length cb) hgX rfl
      have HTK : Hid (x.h.take (i + 1) = x.h.take i ++ [y]) := htk
      have HGX : Hid (X.heap[wr.heap.size]? = some (.cells #[.int .u64 (y.s : Int), .bool y.l, .slice pb y.r.length cb] 91 (0, 0)) ∧ X.heap.size = wr.heap.size + 1 ∧ Below wr.heap.size wr X) := ⟨hgX, hsX, hbX⟩
      have z0 : (0 : Int) ≤ (i : Int) := by omega
      have z1' : (i : Int) < (x.h.length : Int) := by omega
      clear hlb htk hy hKb hbw hBw HL1 hgX hsX hbX
      go_wp2_with fail
      refine CC.out.mono ?_
      rintro e w3 ⟨zb, yb, rfl, hr3, hb3⟩
      obtain ⟨hgX, hsX, hbX⟩ := HGX.out
      have hg3 := (hb3.block _ (by omega)).trans hgX
      obtain ⟨V, hV, k2, f2, hgV, hsV, hkV⟩ := box_put (cl := [.int .u64 (y.s : Int), .bool y.l, .slice pb y.r.length cb]) hg3 (k := 2) (u := .slice pb y.r.length cb) rfl (.slice zb y.r.length yb)
      have hgV' : V.heap[wr.heap.size]? = some (.cells #[.int .u64 (y.s : Int), .bool y.l, .slice zb y.r.length yb] 91 (0, 0)) := hgV
      have d0 := cell_of_row (k := 0) (v := .int .u64 (y.s : Int)) hgV' rfl
      have d1 := cell_of_row (k := 1) (v := .bool y.l) hgV' rfl
      have d2 := cell_of_row (k := 2) (v := .slice zb y.r.length yb) hgV' rfl
      have hb3w : Below wr.heap.size wr w3 := hbX.trans (hb3.mono hbX.size)
      have hbV : Below wr.heap.size wr V := ⟨hkV.os.trans hb3w.os, hkV.tape.trans hb3w.tape, hkV.output.trans hb3w.output, by have := hb3w.size; omega, fun b hb => (hkV.block b (by show b ≠ _; omega)).trans (hb3w.block b hb)⟩
      have hr3' : ListIs rRow 1 24 (From X.heap.size V) V (.slice zb y.r.length yb) y.r := hr3.mono mRow (fun b h => ⟨h.1, by have := h.2; omega⟩) (hkV.less fun b h => by show b ≠ _; have := h.1; omega)
      have hJX := HJ.out.keep mBat hbV
      have hlen : (x.h.take i).length = i := by simp; omega
      have hmx : i + 1 ≤ maxLen := by have := HBY.out; unfold maxLen; omega
      have hb80 : (i + 1) * 40 ≤ 140737488355328 := by have := HBY.out; omega
      obtain ⟨v', X2, e2', hJ2, hb2, hs2⟩ := OwnR.push mBat Try.underlying66 hj0 hj1 hj2 hj3 rfl (by omega) hJX (Nat.le_trans HB.out.size hbV.size) (cs := [.int .u64 (y.s : Int), .bool y.l, .slice zb y.r.length yb]) (x := y) (K2 := From X.heap.size V) rfl (fun c hc => by simp at hc; rcases hc with rfl | rfl | rfl <;> rfl)
        (fun b hb => ⟨by have := hb.1; have := HB.out.size; omega, hb.2, fun e => by obtain ⟨_, _, _, ho, _⟩ := HJ.out; have := (ho.lt _ e).2; have := hb.1; omega⟩) ⟨_, rfl, hs64, hr3'⟩ (by rw [hlen]; exact hb80) (by rw [hlen]; exact hmx)
      have HJ2 : Hid (OwnR rBat 3 91 W0.heap.size X2 v' (x.h.take (i + 1))) := by rw [HTK.out]; exact hJ2
      have HB2 : Hid (Below W0.heap.size W0 X2) := hb2 _ _ (HB.out.trans (hbV.mono HB.out.size)) (Nat.le_refl _)
      clear hJ2 hb2 hs2 hJX hlen hmx hb80 hr3 hr3' hb3 hb3w hbV HJ HB CC e0 e1 e2 x2 hgX hsX hbX hg3 hgV hgV' hsV hkV HGX hX
      go_wp2_with (at_builtin; refine Lib.wpList_append_run _ rfl _ _ _ _ rfl u (.slice (some ⟨V.heap.size, 0, none⟩) 1 1) rfl rfl _ _ e2' ?_)
      go_roundg g'
      case measure => omega
      case rel => exact ⟨_, i + 1, rfl, by go_num, by omega, by omega, HJ2, HB2⟩
    · have z1 : ¬ (i : Int) < (x.h.length : Int) := by omega
      have hJ := HJ.out
      rw [List.take_of_length_le (by omega)] at hJ
      obtain ⟨p1, r1, rfl⟩ := hJ.slice
      have hb1 := HB.out
      clear HJ HB
      have T1' : Two 68 [.int .u64 (x.m.qb : Int), .int .u64 (x.m.qn : Int), .int .i64 x.m.at_, .int .i64 x.m.fr, .int .i64 x.m.tq, .int .u64 (x.n : Int), .slice za1 x.h.length ya1, .slice za2 x.r.length ya2, .bool x.d] w wr := HT0.out.call hb1
      obtain ⟨V1, hV1, f1, t1, s1, k1⟩ := T1'.put (k := 6) (by simp) (.slice p1 x.h.length r1)
      have d1 := T1'.cell (k := 6) (v := .slice za1 x.h.length ya1) rfl
      have T1 : Hid (Two 68 [.int .u64 (x.m.qb : Int), .int .u64 (x.m.qn : Int), .int .i64 x.m.at_, .int .i64 x.m.fr, .int .i64 x.m.tq, .int .u64 (x.n : Int), .slice p1 x.h.length r1, .slice za2 x.r.length ya2, .bool x.d] w V1) := t1
      have L1 : Hid (OwnR rBat 3 91 (w.heap.size + 2) V1 (.slice p1 x.h.length r1) x.h) := (hJ.less HT0.out.lt).kept mBat k1
      clear hb1 hJ T1' t1 s1 k1 HL1
      have C2 : Hid (Calls Try.prog 25 #[.slice za2 x.r.length ya2] V1 fun e w' => ∃ u, e = .returned u ∧ OwnR rRow 1 96 V1.heap.size w' u x.r ∧ Below V1.heap.size V1 w') := copyRowsO _ _ K V1 (ListIs.later mRow HL2.out HK.out T1.out.2.2) (fun b hb => Nat.lt_of_lt_of_le (HK.out b hb) T1.out.2.2.size)
      have c2 := T1.out.cell (k := 7) (v := .slice za2 x.r.length ya2) rfl
      go_wp2_with fail
      refine C2.out.mono ?_
      rintro e w2 ⟨u2, rfl, hl2, hb2⟩
      obtain ⟨p2, r2, rfl⟩ := hl2.slice
      have hI := OwnI.of (P := fun b => b < w2.heap.size) L1.out hb2 hl2 T1.out.lt (fun g _ h => h)
      have T2' : Two 68 [.int .u64 (x.m.qb : Int), .int .u64 (x.m.qn : Int), .int .i64 x.m.at_, .int .i64 x.m.fr, .int .i64 x.m.tq, .int .u64 (x.n : Int), .slice p1 x.h.length r1, .slice za2 x.r.length ya2, .bool x.d] w w2 := T1.out.call hb2
      clear c2 C2
      obtain ⟨V2, hV2, f2, t2, s2, k2⟩ := T2'.put (k := 7) (by simp) (.slice p2 x.r.length r2)
      have d2 := T2'.cell (k := 7) (v := .slice za2 x.r.length ya2) rfl
      have T2 : Hid (Two 68 [.int .u64 (x.m.qb : Int), .int .u64 (x.m.qn : Int), .int .i64 x.m.at_, .int .i64 x.m.fr, .int .i64 x.m.tq, .int .u64 (x.n : Int), .slice p1 x.h.length r1, .slice p2 x.r.length r2, .bool x.d] w V2) := t2
      have L2 : Hid (OwnI (fun b => b < V2.heap.size) (w.heap.size + 2) V2 (.slice p1 x.h.length r1) (.slice p2 x.r.length r2) x.h x.r) := (hI.kept k2).imp (fun b hb => Nat.lt_of_lt_of_le hb k2.size)
      clear hb2 hl2 hI T2' t2 s2 k2
      obtain ⟨hra, hth, W5, hW5, hld, hb5, s5, k5⟩ := T2.out.ret Try.underlying68 rfl sz_In
      have HRA : Hid (V2.rangeAt w.heap.size 0 [.int .u64 (x.m.qb : Int), .int .u64 (x.m.qn : Int), .int .i64 x.m.at_, .int .i64 x.m.fr, .int .i64 x.m.tq, .int .u64 (x.n : Int), .slice p1 x.h.length r1, .slice p2 x.r.length r2, .bool x.d]) := hra
      have HTH : Hid (V2.there (w.heap.size + 1) 0 9) := hth
      have HW5 : Hid (V2.setCells (w.heap.size + 1) 0 (#[.int .u64 (x.m.qb : Int), .int .u64 (x.m.qn : Int), .int .i64 x.m.at_, .int .i64 x.m.fr, .int .i64 x.m.tq, .int .u64 (x.n : Int), .slice p1 x.h.length r1, .slice p2 x.r.length r2, .bool x.d] : Array Value).toList = W5) := hW5
      have HON : Hid ((#[.int .u64 (x.m.qb : Int), .int .u64 (x.m.qn : Int), .int .i64 x.m.at_, .int .i64 x.m.fr, .int .i64 x.m.tq, .int .u64 (x.n : Int), .slice p1 x.h.length r1, .slice p2 x.r.length r2, .bool x.d] : Array Value).all (·.oneCell') = true) := by show _ = _; simp [Value.oneCell']
      have HLD : Hid ((loadVar 68 ⟨w.heap.size + 1, 0, none⟩).run Try.prog W5 = .ok (.agg #[.int .u64 (x.m.qb : Int), .int .u64 (x.m.qn : Int), .int .i64 x.m.at_, .int .i64 x.m.fr, .int .i64 x.m.tq, .int .u64 (x.n : Int), .slice p1 x.h.length r1, .slice p2 x.r.length r2, .bool x.d]) W5) := hld
      have HBF : Hid (Below w.heap.size w W5) := hb5
      have M0 : Hid (OwnI (fun b => b < W5.heap.size) w.heap.size W5 (.slice p1 x.h.length r1) (.slice p2 x.r.length r2) x.h x.r) := ((L2.out.kept k5).less (by omega)).imp (fun b hb => Nat.lt_of_lt_of_le hb k5.size)
      clear hra hth hW5 hld hb5 s5 k5
      go_wp2_with (first | (refine wpList_load_mid rfl 68 _ rfl w.heap.size 0 rfl _ _ HRA.out Try.underlying68 rfl sz_In ?_) | (refine wpList_store_mid rfl 68 _ _ rfl (w.heap.size + 1) 0 #[.int .u64 (x.m.qb : Int), .int .u64 (x.m.qn : Int), .int .i64 x.m.at_, .int .i64 x.m.fr, .int .i64 x.m.tq, .int .u64 (x.n : Int), .slice p1 x.h.length r1, .slice p2 x.r.length r2, .bool x.d] rfl rfl HTH.out sz_In HON.out ?_; rw [HW5.out]))
      refine bodyPost_ret (v := .agg #[.int .u64 (x.m.qb : Int), .int .u64 (x.m.qn : Int), .int .i64 x.m.at_, .int .i64 x.m.fr, .int .i64 x.m.tq, .int .u64 (x.n : Int), .slice p1 x.h.length r1, .slice p2 x.r.length r2, .bool x.d]) (by simp only [results, Try.results17]; simp [asAddr, Act.put, HLD.out]) rfl ?_
      exact ⟨_, _, _, _, rfl, M0.out, HBF.out⟩
end Go.Proofs.Ytcmiphgeakdonaa
