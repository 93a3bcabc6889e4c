/- The law DiskDoes returns true, of any disk, step and number. -/
import Derived.Test.YtedjfbkpebmggaaRi
namespace Go.Proofs.Ytedjfbkpebmggaa
open Go.Shelf Go.RowKit Go.Lib Go.Sort
set_option linter.unusedVariables false
set_option linter.unusedSimpArgs false
attribute [local go_sem ↓] Go.wp_at_zero Go.wp_at_succ
/-- A disk that lies in its box, with its files. -/
def Lies (g : Nat) (p : Option Addr) (c : Nat) (fs : List DF) (dn : Bool) (fu : Int) (W : World) : Prop := W.heap[g]? = some (.cells #[.slice p fs.length c, .bool dn, .int .i64 fu] 24 (0, 0)) ∧ FsL W (.slice p fs.length c) fs
theorem Lies.below {g : Nat} {p : Option Addr} {c : Nat} {fs : List DF} {dn : Bool} {fu : Int} {W W' : World} (h : Lies g p c fs dn fu W) (hb : Below W.heap.size W W') : Lies g p c fs dn fu W' := ⟨by rw [hb.block _ (Array.getElem?_eq_some_iff.1 h.1).1]; exact h.1, h.2.below hb⟩
theorem Lies.cells {g : Nat} {p : Option Addr} {c : Nat} {fs : List DF} {dn : Bool} {fu : Int} {W : World} (h : Lies g p c fs dn fu W) : W.cell? ⟨g, 0, none⟩ = some (.slice p fs.length c) ∧ W.cell? ⟨g, 1, none⟩ = some (.bool dn) ∧ W.cell? ⟨g, 2, none⟩ = some (.int .i64 fu) := ⟨cell_of_row (k := 0) h.1 rfl, cell_of_row (k := 1) h.1 rfl, cell_of_row (k := 2) h.1 rfl⟩
theorem Lies.new {p : Option Addr} {c : Nat} {fs : List DF} {dn : Bool} {fu : Int} {W V : World} (h : FsL W (.slice p fs.length c) fs) (e : W.alloc (.cells #[.slice p fs.length c, .bool dn, .int .i64 fu] 24) = V) : Lies W.heap.size p c fs dn fu V ∧ Below W.heap.size W V := by
  subst e
  exact ⟨⟨heap_alloc_new W _, h.below (one_below _ _)⟩, one_below _ _⟩
set_option maxRecDepth 100000 in
set_option maxHeartbeats 4000000 in
theorem does_core (v : Value) (dn : Bool) (fu kk keep : Int) (nm tt dt : ByteArray) (fs : List DF) (w : World) (h : FsL w v fs) (hm : (fs.length + 1) * 40 ≤ 140737488355328) (hr : -9223372036854775808 ≤ fu ∧ fu ≤ 9223372036854775807)
    (h1 : nm.size ≤ 140737488355328) (h2 : tt.size ≤ 140737488355328) (h3 : dt.size ≤ 140737488355328) :
    Calls Try.prog 3 #[.agg #[v, .bool dn, .int .i64 fu], .agg #[.int .u8 kk, .string nm, .string tt, .string dt], .int .i64 keep] w fun e w' => e = .returned (.bool true) ∧ Below w.heap.size w w' := by
  obtain ⟨W0, hW0, hb0, hs0, hx⟩ := rfbox w v dn fu kk nm tt dt
  have HX : Hid _ := hx
  have HB0 : Hid (Below w.heap.size w W0) := hb0
  have CL : Hid (∀ W, Calls Try.prog 16 #[] W fun e w' => e = .returned (.bool true) ∧ Below W.heap.size W w') := lives_any
  have CD : Hid (∀ p c W, FsL W (.slice p fs.length c) fs → Calls Try.prog 10 #[.agg #[.slice p fs.length c, .bool dn, .int .i64 fu], .agg #[.int .u8 kk, .string nm, .string tt, .string dt]] W fun e w' => Did (DoR fs dn fu kk nm tt dt) W e w') := fun p c W hl => Do_any _ dn fu kk nm tt dt fs W hl hm hr h1 h2 h3
  have CDr : Hid (∀ p c W, FsL W (.slice p fs.length c) fs → Calls Try.prog 11 #[.agg #[.slice p fs.length c, .bool dn, .int .i64 fu], .agg #[.int .u8 kk, .string nm, .string tt, .string dt]] W fun e w' => Did (DoR fs dn fu kk nm tt dt) W e w') := fun p c W hl => refDo_any _ dn fu kk nm tt dt fs W hl hm hr h1 h2 h3
  have CR : Hid (∀ p c W, FsL W (.slice p fs.length c) fs → Calls Try.prog 12 #[.agg #[.slice p fs.length c, .bool dn, .int .i64 fu], .string nm] W fun e w' => e = .returned (.tuple #[.string (rdS fs dn nm), .int .i64 (rdE fs dn nm)]) ∧ Below W.heap.size W w') := fun p c W hl => Read_any _ dn fu nm fs W hl
  have CRr : Hid (∀ p c W, FsL W (.slice p fs.length c) fs → Calls Try.prog 13 #[.agg #[.slice p fs.length c, .bool dn, .int .i64 fu], .string nm] W fun e w' => e = .returned (.tuple #[.string (rdS fs dn nm), .int .i64 (rdE fs dn nm)]) ∧ Below W.heap.size W w') := fun p c W hl => refRead_any _ dn fu nm fs W hl
  have CC : Hid (∀ p c W, FsL W (.slice p fs.length c) fs → Calls Try.prog 14 #[.agg #[.slice p fs.length c, .bool dn, .int .i64 fu], .int .i64 keep] W fun e w' => Did (CrR fs keep) W e w') := fun p c W hl => Crash_any _ dn fu keep fs W hl
  have CCr : Hid (∀ p c W, FsL W (.slice p fs.length c) fs → Calls Try.prog 15 #[.agg #[.slice p fs.length c, .bool dn, .int .i64 fu], .int .i64 keep] W fun e w' => Did (CrR fs keep) W e w') := fun p c W hl => refCrash_any _ dn fu keep fs W hl
  have CK : Hid (∀ p c W, FsL W (.slice p fs.length c) fs → Calls Try.prog 18 #[.agg #[.slice p fs.length c, .bool dn, .int .i64 fu]] W fun e w' => e = .returned (.int .i64 (chE fs)) ∧ Below W.heap.size W w') := fun p c W hl => check_any _ dn fu fs W hl
  have CKr : Hid (∀ p c W, FsL W (.slice p fs.length c) fs → Calls Try.prog 19 #[.agg #[.slice p fs.length c, .bool dn, .int .i64 fu]] W fun e w' => e = .returned (.int .i64 (chE fs)) ∧ Below W.heap.size W w') := fun p c W hl => refCheck_any _ dn fu fs W hl
  have C0 : Hid (Calls Try.prog 9 #[.agg #[v, .bool dn, .int .i64 fu]] W0 fun e w' => Was fs dn fu W0 e w') := refCopy_any v dn fu fs W0 (h.below hb0)
  have HSM : Hid (SmallF fs) := h.small
  have hmany := h.many
  obtain ⟨x0, x1⟩ := hx W0 (Below.refl _ _)
  obtain ⟨x0, x2, x3⟩ := x0
  obtain ⟨y0, y1, y2, y3⟩ := x1
  have HFL : Hid (FsL w v fs) := h
  obtain ⟨p, c, rfl, _⟩ := h
  obtain ⟨⟨rfs, rdn, rfu, re⟩, hR⟩ : ∃ R, DoR fs dn fu kk nm tt dt = R := ⟨_, rfl⟩
  obtain ⟨⟨cfs, cdn, cfu, ce⟩, hC⟩ : ∃ R, CrR fs keep = R := ⟨_, rfl⟩
  obtain ⟨sr, hsr⟩ : ∃ sr, rdS fs dn nm = sr := ⟨_, rfl⟩
  obtain ⟨er, her⟩ : ∃ er, rdE fs dn nm = er := ⟨_, rfl⟩
  obtain ⟨ch, hch⟩ : ∃ ch, chE fs = ch := ⟨_, rfl⟩
  rw [hR] at CD CDr
  rw [hC] at CC CCr
  rw [hsr, her] at CR CRr
  rw [hch] at CK CKr
  clear hx hb0 hs0 h1 h2 h3 hm hr hR hC hsr her hch
  go_enter Try.func3, Try.ntmps3
  go_wp2_with fail
  refine C0.out.mono ?_
  rintro e w1 ⟨p1, c1, rfl, ho1, hb1⟩
  obtain ⟨V1, hV1⟩ : ∃ V1, w1.alloc (.cells #[.slice p1 fs.length c1, .bool dn, .int .i64 fu] 24) = V1 := ⟨_, rfl⟩
  obtain ⟨hL1, hbV1⟩ := Lies.new (ho1.files hmany HSM.out) hV1
  have HB1 : Hid (Below W0.heap.size W0 V1) := hb1.trans (hbV1.mono hb1.size)
  have HL1 : Hid (Lies w1.heap.size p1 c1 fs dn fu V1) := hL1
  obtain ⟨a0, a1, a2⟩ := HL1.out.cells
  obtain ⟨⟨x0, x2, x3⟩, y0, y1, y2, y3⟩ := HX.out V1 HB1.out
  have D1 := CD.out p1 c1 V1 HL1.out.2
  clear ho1 hb1 hbV1 hL1 C0
  go_wp2_with fail
  refine D1.mono ?_
  rintro e w2 ⟨p2, n2, c2, rfl, hl2, hb2⟩
  simp only at hl2
  have hn2 := hl2.len
  subst hn2
  obtain ⟨V2, hV2⟩ : ∃ V2, w2.alloc (.cells #[.slice p2 rfs.length c2, .bool rdn, .int .i64 rfu] 24) = V2 := ⟨_, rfl⟩
  obtain ⟨hL2, hbV2⟩ := Lies.new hl2 hV2
  have HB2 : Hid (Below V1.heap.size V1 V2) := hb2.trans (hbV2.mono hb2.size)
  have HL2 : Hid (Lies w2.heap.size p2 c2 rfs rdn rfu V2) := hL2
  have HD2 : Hid (Below W0.heap.size W0 V2) := HB1.out.trans (HB2.out.mono HB1.out.size)
  obtain ⟨⟨x0, x2, x3⟩, y0, y1, y2, y3⟩ := HX.out V2 HD2.out
  have D2 := CDr.out p c V2 (HFL.out.below (HB0.out.trans (HD2.out.mono HB0.out.size)))
  clear hl2 hb2 hbV2 hL2 D1 CD CDr a0 a1 a2
  go_wp2_with fail
  refine D2.mono ?_
  rintro e w3 ⟨p3, n3, c3, rfl, hl3, hb3⟩
  simp only at hl3
  have hn3 := hl3.len
  subst hn3
  obtain ⟨V3, hV3⟩ : ∃ V3, w3.alloc (.cells #[.slice p3 rfs.length c3, .bool rdn, .int .i64 rfu] 24) = V3 := ⟨_, rfl⟩
  obtain ⟨hL3, hbV3⟩ := Lies.new hl3 hV3
  have HB3 : Hid (Below V2.heap.size V2 V3) := hb3.trans (hbV3.mono hb3.size)
  have HL3 : Hid (Lies w3.heap.size p3 c3 rfs rdn rfu V3) := hL3
  have HL13 : Hid (Lies w1.heap.size p1 c1 fs dn fu V3) := (HL1.out.below HB2.out).below HB3.out
  have HD3 : Hid (Below W0.heap.size W0 V3) := HD2.out.trans (HB3.out.mono HD2.out.size)
  obtain ⟨⟨x0, x2, x3⟩, y0, y1, y2, y3⟩ := HX.out V3 HD3.out
  obtain ⟨a0, a1, a2⟩ := HL13.out.cells
  have D3 := CR.out p1 c1 V3 HL13.out.2
  clear hl3 hb3 hbV3 hL3 D2 CR
  go_wp2_with fail
  refine D3.mono ?_
  rintro e w4 ⟨rfl, hb4⟩
  have HD4 : Hid (Below W0.heap.size W0 w4) := HD3.out.trans (hb4.mono HD3.out.size)
  obtain ⟨⟨x0, x2, x3⟩, y0, y1, y2, y3⟩ := HX.out w4 HD4.out
  have HB4 : Hid (Below V3.heap.size V3 w4) := hb4
  have D4 := CRr.out p c w4 (HFL.out.below (HB0.out.trans (HD4.out.mono HB0.out.size)))
  clear hb4 D3 CRr a0 a1 a2
  go_wp2_with fail
  refine D4.mono ?_
  rintro e w5 ⟨rfl, hb5⟩
  have HB5 : Hid (Below V3.heap.size V3 w5) := HB4.out.trans (hb5.mono HB4.out.size)
  have HL15 : Hid (Lies w1.heap.size p1 c1 fs dn fu w5) := HL13.out.below HB5.out
  obtain ⟨a0, a1, a2⟩ := HL15.out.cells
  have D5 := CC.out p1 c1 w5 HL15.out.2
  clear hb5 D4 CC
  go_wp2_with fail
  refine D5.mono ?_
  rintro e w6 ⟨p6, n6, c6, rfl, hl6, hb6⟩
  simp only at hl6
  have hn6 := hl6.len
  subst hn6
  obtain ⟨V6, hV6⟩ : ∃ V6, w6.alloc (.cells #[.slice p6 cfs.length c6, .bool cdn, .int .i64 cfu] 24) = V6 := ⟨_, rfl⟩
  obtain ⟨hL6, hbV6⟩ := Lies.new hl6 hV6
  have HB6 : Hid (Below V3.heap.size V3 V6) := HB5.out.trans ((hb6.trans (hbV6.mono hb6.size)).mono HB5.out.size)
  have HL6 : Hid (Lies w6.heap.size p6 c6 cfs cdn cfu V6) := hL6
  have HD6 : Hid (Below W0.heap.size W0 V6) := HD3.out.trans (HB6.out.mono HD3.out.size)
  obtain ⟨⟨x0, x2, x3⟩, y0, y1, y2, y3⟩ := HX.out V6 HD6.out
  have D6 := CCr.out p c V6 (HFL.out.below (HB0.out.trans (HD6.out.mono HB0.out.size)))
  clear hl6 hb6 hbV6 hL6 D5 CCr a0 a1 a2
  go_wp2_with fail
  refine D6.mono ?_
  rintro e w7 ⟨p7, n7, c7, rfl, hl7, hb7⟩
  simp only at hl7
  have hn7 := hl7.len
  subst hn7
  obtain ⟨V7, hV7⟩ : ∃ V7, w7.alloc (.cells #[.slice p7 cfs.length c7, .bool cdn, .int .i64 cfu] 24) = V7 := ⟨_, rfl⟩
  obtain ⟨hL7, hbV7⟩ := Lies.new hl7 hV7
  have hB7 : Below V6.heap.size V6 V7 := hb7.trans (hbV7.mono hb7.size)
  have HB7 : Hid (Below V3.heap.size V3 V7) := HB6.out.trans (hB7.mono HB6.out.size)
  have HD7 : Hid (Below W0.heap.size W0 V7) := HD3.out.trans (HB7.out.mono HD3.out.size)
  have HLg : Hid (∀ l : LaterS V7.heap.size V7, Lies w1.heap.size p1 c1 fs dn fu l.w) := fun l => (HL13.out.below HB7.out).below l.h
  have HLa : Hid (∀ l : LaterS V7.heap.size V7, Lies w2.heap.size p2 c2 rfs rdn rfu l.w) := fun l => ((HL2.out.below HB3.out).below HB7.out).below l.h
  have HLb : Hid (∀ l : LaterS V7.heap.size V7, Lies w3.heap.size p3 c3 rfs rdn rfu l.w) := fun l => (HL3.out.below HB7.out).below l.h
  have HLf : Hid (∀ l : LaterS V7.heap.size V7, Lies w6.heap.size p6 c6 cfs cdn cfu l.w) := fun l => (HL6.out.below hB7).below l.h
  have HLh : Hid (∀ l : LaterS V7.heap.size V7, Lies w7.heap.size p7 c7 cfs cdn cfu l.w) := fun l => hL7.below l.h
  have HLd : Hid (∀ l : LaterS V7.heap.size V7, FsL l.w (.slice p fs.length c) fs) := fun l => (HFL.out.below (HB0.out.trans (HD7.out.mono HB0.out.size))).below l.h
  have pd := fun l : LaterS V7.heap.size V7 => (HX.out l.w (HD7.out.trans (l.h.mono HD7.out.size))).1
  have pd0 := fun l => (pd l).1
  have pd1 := fun l => (pd l).2.1
  have pd2 := fun l => (pd l).2.2
  have pg0 := fun l => (HLg.out l).cells.1
  have pg1 := fun l => (HLg.out l).cells.2.1
  have pg2 := fun l => (HLg.out l).cells.2.2
  have pa0 := fun l => (HLa.out l).cells.1
  have pa1 := fun l => (HLa.out l).cells.2.1
  have pa2 := fun l => (HLa.out l).cells.2.2
  have pb0 := fun l => (HLb.out l).cells.1
  have pb1 := fun l => (HLb.out l).cells.2.1
  have pb2 := fun l => (HLb.out l).cells.2.2
  have pf0 := fun l => (HLf.out l).cells.1
  have pf1 := fun l => (HLf.out l).cells.2.1
  have pf2 := fun l => (HLf.out l).cells.2.2
  have ph0 := fun l => (HLh.out l).cells.1
  have ph1 := fun l => (HLh.out l).cells.2.1
  have ph2 := fun l => (HLh.out l).cells.2.2
  have S1 : Hid (∀ l : LaterS V7.heap.size V7, Calls Try.prog 17 #[.agg #[.slice p2 rfs.length c2, .bool rdn, .int .i64 rfu], .agg #[.slice p3 rfs.length c3, .bool rdn, .int .i64 rfu]] l.w fun e w' => e = .returned (.bool true) ∧ Below l.w.heap.size l.w w') := fun l => Same_eq _ _ _ _ _ _ rfs l.w (HLa.out l).2 (HLb.out l).2
  have S2 : Hid (∀ l : LaterS V7.heap.size V7, Calls Try.prog 17 #[.agg #[.slice p6 cfs.length c6, .bool cdn, .int .i64 cfu], .agg #[.slice p7 cfs.length c7, .bool cdn, .int .i64 cfu]] l.w fun e w' => e = .returned (.bool true) ∧ Below l.w.heap.size l.w w') := fun l => Same_eq _ _ _ _ _ _ cfs l.w (HLf.out l).2 (HLh.out l).2
  have S3 : Hid (∀ l : LaterS V7.heap.size V7, Calls Try.prog 17 #[.agg #[.slice p1 fs.length c1, .bool dn, .int .i64 fu], .agg #[.slice p fs.length c, .bool dn, .int .i64 fu]] l.w fun e w' => e = .returned (.bool true) ∧ Below l.w.heap.size l.w w') := fun l => Same_eq _ _ _ _ _ _ fs l.w (HLg.out l).2 (HLd.out l)
  have S4 : Hid (∀ l : LaterS V7.heap.size V7, Calls Try.prog 18 #[.agg #[.slice p1 fs.length c1, .bool dn, .int .i64 fu]] l.w fun e w' => e = .returned (.int .i64 ch) ∧ Below l.w.heap.size l.w w') := fun l => CK.out p1 c1 l.w (HLg.out l).2
  have S5 : Hid (∀ l : LaterS V7.heap.size V7, Calls Try.prog 19 #[.agg #[.slice p fs.length c, .bool dn, .int .i64 fu]] l.w fun e w' => e = .returned (.int .i64 ch) ∧ Below l.w.heap.size l.w w') := fun l => CKr.out p c l.w (HLd.out l)
  have SA : Hid (∀ (args : Array Value) (l : LaterS V7.heap.size V7), (args = #[.agg #[.slice p2 rfs.length c2, .bool rdn, .int .i64 rfu], .agg #[.slice p3 rfs.length c3, .bool rdn, .int .i64 rfu]] ∨ args = #[.agg #[.slice p6 cfs.length c6, .bool cdn, .int .i64 cfu], .agg #[.slice p7 cfs.length c7, .bool cdn, .int .i64 cfu]] ∨ args = #[.agg #[.slice p1 fs.length c1, .bool dn, .int .i64 fu], .agg #[.slice p fs.length c, .bool dn, .int .i64 fu]]) → Calls Try.prog 17 args l.w fun e w' => e = .returned (.bool true) ∧ Below l.w.heap.size l.w w') := fun args l ha => by
    rcases ha with rfl | rfl | rfl
    · exact S1.out l
    · exact S2.out l
    · exact S3.out l
  clear S1 S2 S3
  have es := eq_self sr
  have HBE : Hid (Below w.heap.size w V7) := HB0.out.trans (HD7.out.mono HB0.out.size)
  clear hl7 hb7 hbV7 hL7 D6 hB7 pd
  go_wp2_with fail
  have inhL := laterInh
  refine wp_region_laterS mixedOnS (by kernel_rfl) ?_
  repeat (go_big_quiet_step (first
    | (go_at_call 16; exact calls_laterS (CL.out _))
    | (go_at_call 17; refine calls_laterS (SA.out _ _ ?_); first | exact Or.inl rfl | exact Or.inr (Or.inl rfl) | exact Or.inr (Or.inr rfl))
    | (go_at_call 18; exact calls_laterS (S4.out _))
    | (go_at_call 19; exact calls_laterS (S5.out _))))
  refine wpQuiet_nil ?_
  intro w8 hw'
  obtain ⟨⟨wq, hwq⟩, hw''⟩ := hw'
  subst hw''
  have HF : Hid (Below w.heap.size w w8) := HBE.out.trans (hwq.mono HBE.out.size)
  clear hwq
  go_wp2_with fail
  go_ret
  exact ⟨rfl, HF.out⟩
end Go.Proofs.Ytedjfbkpebmggaa
