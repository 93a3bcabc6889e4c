/- The law LeaseDoes returns true, of any leases, numbers and times. -/
import Derived.Test.YtdcgppdljcokpaaLn
namespace Go.Proofs.Ytdcgppdljcokpaa
open Go.Shelf Go.RowKit Go.Lib Go.Sort
set_option linter.unusedVariables false
set_option linter.unusedSimpArgs false
attribute [local go_sem ↓] Go.wp_at_zero Go.wp_at_succ
/-- A world behind another one, all of whose blocks are as they were. -/
structure LaterS (B : Nat) (W0 : World) where
  w : World
  h : Below B W0 w
abbrev laterInh (w : World) : Inhabited (LaterS w.heap.size w) := ⟨⟨w, Below.refl _ _⟩⟩
theorem wp_region_laterS {P : Program} {id : Nat} {Q : Exit → Act → World → Prop} {a : Act} {w : World} {l : List Oper} (hm : P.follows .mixedOrders = true) (hB : Region.lexB .any l.toArray = true)
    (h : wpQuiet P l.toArray (fun w' => ∃ p : LaterS w.heap.size w, w' = p.w) (fun a' => ∀ w', (∃ p : LaterS w.heap.size w, w' = p.w) → Q .normal a' w') l a) : (Code.region id l.toArray true).wp P Q a w :=
  wp_region_quiet (C := fun w' => ∃ p : LaterS w.heap.size w, w' = p.w) hm hB ⟨⟨w.drew, (Below.refl _ _).drew⟩, rfl⟩ (by simpa using h)
theorem calls_laterS {P : Program} {f : FuncId} {args : Array Value} {W0 : World} {p : LaterS W0.heap.size W0} {v : Value}
    (h : Calls P f args p.w fun e w' => e = .returned v ∧ Below p.w.heap.size p.w w') : Calls P f args p.w fun e w'' => e = .returned v ∧ ∃ p' : LaterS W0.heap.size W0, w'' = p'.w :=
  h.mono fun _ _ ⟨he, hb⟩ => ⟨he, ⟨_, p.h.trans (hb.mono p.h.size)⟩, rfl⟩
theorem mixedOnS : Try.prog.follows .mixedOrders = true := by kernel_rfl
theorem same_true (u1 u2 v1 v2 : Value) (xs xt : List Int) (W : World) (h1 : NumsL W u1 xs) (h2 : NumsL W u2 xt) (h3 : NumsL W v1 xs) (h4 : NumsL W v2 xt) :
    Calls Try.prog 15 #[.agg #[u1, u2], .agg #[v1, v2]] W fun e w' => e = .returned (.bool true) ∧ Below W.heap.size W w' := by
  have := Same_any u1 u2 v1 v2 xs xt xs xt W h1 h2 h3 h4
  simp only [sameN_self, Bool.and_self] at this
  exact this
set_option maxRecDepth 100000 in
set_option maxHeartbeats 16000000 in
theorem does_core (u v : Value) (bs ss : List Int) (nodes node boot now : Int) (w : World) (h : NumsL w u bs) (h' : NumsL w v ss) (hbo : 0 ≤ boot ∧ boot < 18446744073709551616) (hno : 0 ≤ now ∧ now < 18446744073709551616) :
    Calls Try.prog 3 #[.agg #[u, v], .int .i64 nodes, .int .i64 node, .int .u64 boot, .int .u64 now] w fun e w' => e = .returned (.bool true) ∧ Below w.heap.size w w' := by
  obtain ⟨p, c, rfl, _⟩ := id h
  obtain ⟨q, d, rfl, _⟩ := id h'
  obtain ⟨W0, hW0⟩ : ∃ W0, w.alloc (.cells #[.slice p bs.length c, .slice q ss.length d] 24) = W0 := ⟨_, rfl⟩
  obtain ⟨hbox, hb0⟩ := BoxL.new h h' hW0
  have HL0 : Hid (BoxL w.heap.size p c q d bs ss W0) := hbox
  have HD0 : Hid (Below w.heap.size w W0) := hb0
  have CL := hid lives_any
  have CO := hid (refCopy_any (.slice p bs.length c) (.slice q ss.length d) bs ss W0 hbox.n1 hbox.n2)
  have CN := hid (fun W => New_any nodes W)
  have CM := hid (fun W => refNew_any nodes W)
  have CB := hid (fun (u v : Value) (W : World) (h : NumsL W u bs) (h' : NumsL W v ss) => Beat_any u v bs ss node boot now W h h' hbo hno)
  have CR := hid (fun (u v : Value) (W : World) (h : NumsL W u bs) (h' : NumsL W v ss) => refBeat_any u v bs ss node boot now W h h' hbo hno)
  have CA := hid (fun (u v : Value) (W : World) (h : NumsL W u bs) (h' : NumsL W v ss) => Alive_any u v bs ss now W h h' hno)
  have CZ := hid (fun (u v : Value) (W : World) (h : NumsL W u bs) (h' : NumsL W v ss) => refAlive_any u v bs ss now W h h' hno)
  have CK := hid (fun (u v : Value) (W : World) (h : NumsL W u bs) (h' : NumsL W v ss) => check_any u v bs ss W h h')
  have CQ := hid (fun (u v : Value) (W : World) (h : NumsL W u bs) (h' : NumsL W v ss) => refCheck_any u v bs ss W h h')
  have CS := hid same_true
  obtain ⟨zn, hzn⟩ : ∃ s, nobody nodes = s := ⟨_, rfl⟩
  obtain ⟨en, hen⟩ : ∃ s, newE nodes = s := ⟨_, rfl⟩
  obtain ⟨tb, htb⟩ : ∃ s, btB bs ss node boot now = s := ⟨_, rfl⟩
  obtain ⟨ts, hts⟩ : ∃ s, btS bs ss node boot now = s := ⟨_, rfl⟩
  obtain ⟨tf, htf⟩ : ∃ s, btF bs ss node boot now = s := ⟨_, rfl⟩
  obtain ⟨te, hte⟩ : ∃ s, btE bs ss node boot now = s := ⟨_, rfl⟩
  obtain ⟨al, hal⟩ : ∃ s, alvL bs ss now = s := ⟨_, rfl⟩
  obtain ⟨ch, hch⟩ : ∃ s, chL bs ss = s := ⟨_, rfl⟩
  rw [hzn, hen] at CN CM
  rw [htb, hts, htf, hte] at CB CR
  rw [hal, hch] at CA CZ
  rw [hch] at CK CQ
  have g0 := hbox.c0
  have g1 := hbox.c1
  clear h h' hbox hb0 hbo hno hzn hen htb hts htf hte hal hch
  go_enter Try.func3, Try.ntmps3
  go_wp2_with fail
  refine CO.out.mono ?_
  rintro e w0 ⟨p0, c0, q0, d0, rfl, hn1, hn2, hb, _⟩
  obtain ⟨V0, hV0⟩ : ∃ V, w0.alloc (.cells #[.slice p0 bs.length c0, .slice q0 ss.length d0] 24) = V := ⟨_, rfl⟩
  obtain ⟨hA, hbV⟩ := BoxL.new hn1 hn2 hV0
  have hbb : Below W0.heap.size W0 V0 := hb.trans (hbV.mono hb.size)
  have HL1 : Hid (BoxL w.heap.size p c q d bs ss V0) := HL0.out.below hbb
  have HG1 : Hid (BoxL w0.heap.size p0 c0 q0 d0 bs ss V0) := hA
  have HD1 : Hid (Below w.heap.size w V0) := HD0.out.trans (hbb.mono HD0.out.size)
  clear CO hn1 hn2 hb hA hbV hbb HL0 HD0 g0 g1
  have c0L := HL1.out.c0
  have c1L := HL1.out.c1
  have c0G := HG1.out.c0
  have c1G := HG1.out.c1
  have K1 := CN.out V0
  clear CN
  go_wp2_with fail
  refine K1.mono ?_
  rintro e w1 ⟨p1, c1, q1, d1, rfl, hn1, hn2, hb⟩
  obtain ⟨V1, hV1⟩ : ∃ V, w1.alloc (.cells #[.slice p1 zn.length c1, .slice q1 zn.length d1] 24) = V := ⟨_, rfl⟩
  obtain ⟨hA, hbV⟩ := BoxL.new hn1 hn2 hV1
  have hbb : Below V0.heap.size V0 V1 := hb.trans (hbV.mono hb.size)
  have HL2 : Hid (BoxL w.heap.size p c q d bs ss V1) := HL1.out.below hbb
  have HG2 : Hid (BoxL w0.heap.size p0 c0 q0 d0 bs ss V1) := HG1.out.below hbb
  have HD2 : Hid (Below w.heap.size w V1) := HD1.out.trans (hbb.mono HD1.out.size)
  have HA2 : Hid (BoxL w1.heap.size p1 c1 q1 d1 zn zn V1) := hA
  clear K1 hn1 hn2 hb hA hbV hbb c0L c1L c0G c1G HL1 HG1 HD1
  have c0L := HL2.out.c0
  have c1L := HL2.out.c1
  have c0G := HG2.out.c0
  have c1G := HG2.out.c1
  have c0A := HA2.out.c0
  have c1A := HA2.out.c1
  have K2 := CM.out V1
  clear CM
  go_wp2_with fail
  refine K2.mono ?_
  rintro e w2 ⟨p2, c2, q2, d2, rfl, hn1, hn2, hb⟩
  obtain ⟨V2, hV2⟩ : ∃ V, w2.alloc (.cells #[.slice p2 zn.length c2, .slice q2 zn.length d2] 24) = V := ⟨_, rfl⟩
  obtain ⟨hA, hbV⟩ := BoxL.new hn1 hn2 hV2
  have hbb : Below V1.heap.size V1 V2 := hb.trans (hbV.mono hb.size)
  have HL3 : Hid (BoxL w.heap.size p c q d bs ss V2) := HL2.out.below hbb
  have HG3 : Hid (BoxL w0.heap.size p0 c0 q0 d0 bs ss V2) := HG2.out.below hbb
  have HA3 : Hid (BoxL w1.heap.size p1 c1 q1 d1 zn zn V2) := HA2.out.below hbb
  have HD3 : Hid (Below w.heap.size w V2) := HD2.out.trans (hbb.mono HD2.out.size)
  have HB3 : Hid (BoxL w2.heap.size p2 c2 q2 d2 zn zn V2) := hA
  clear K2 hn1 hn2 hb hA hbV hbb c0L c1L c0G c1G c0A c1A HL2 HG2 HA2 HD2
  have c0L := HL3.out.c0
  have c1L := HL3.out.c1
  have c0G := HG3.out.c0
  have c1G := HG3.out.c1
  have c0A := HA3.out.c0
  have c1A := HA3.out.c1
  have c0B := HB3.out.c0
  have c1B := HB3.out.c1
  have K3 := CB.out _ _ V2 HG3.out.n1 HG3.out.n2
  clear CB
  go_wp2_with fail
  refine K3.mono ?_
  rintro e w3 ⟨p3, c3, q3, d3, rfl, hn1, hn2, hb⟩
  obtain ⟨V3, hV3⟩ : ∃ V, w3.alloc (.cells #[.slice p3 tb.length c3, .slice q3 ts.length d3] 24) = V := ⟨_, rfl⟩
  obtain ⟨hA, hbV⟩ := BoxL.new hn1 hn2 hV3
  have hbb : Below V2.heap.size V2 V3 := hb.trans (hbV.mono hb.size)
  have HL4 : Hid (BoxL w.heap.size p c q d bs ss V3) := HL3.out.below hbb
  have HG4 : Hid (BoxL w0.heap.size p0 c0 q0 d0 bs ss V3) := HG3.out.below hbb
  have HA4 : Hid (BoxL w1.heap.size p1 c1 q1 d1 zn zn V3) := HA3.out.below hbb
  have HB4 : Hid (BoxL w2.heap.size p2 c2 q2 d2 zn zn V3) := HB3.out.below hbb
  have HD4 : Hid (Below w.heap.size w V3) := HD3.out.trans (hbb.mono HD3.out.size)
  have HC4 : Hid (BoxL w3.heap.size p3 c3 q3 d3 tb ts V3) := hA
  clear K3 hn1 hn2 hb hA hbV hbb c0L c1L c0G c1G c0A c1A c0B c1B HL3 HG3 HA3 HB3 HD3
  have c0L := HL4.out.c0
  have c1L := HL4.out.c1
  have c0G := HG4.out.c0
  have c1G := HG4.out.c1
  have c0A := HA4.out.c0
  have c1A := HA4.out.c1
  have c0B := HB4.out.c0
  have c1B := HB4.out.c1
  have c0C := HC4.out.c0
  have c1C := HC4.out.c1
  have K4 := CR.out _ _ V3 HL4.out.n1 HL4.out.n2
  clear CR
  go_wp2_with fail
  refine K4.mono ?_
  rintro e w4 ⟨p4, c4, q4, d4, rfl, hn1, hn2, hb⟩
  obtain ⟨V4, hV4⟩ : ∃ V, w4.alloc (.cells #[.slice p4 tb.length c4, .slice q4 ts.length d4] 24) = V := ⟨_, rfl⟩
  obtain ⟨hA, hbV⟩ := BoxL.new hn1 hn2 hV4
  have hbb : Below V3.heap.size V3 V4 := hb.trans (hbV.mono hb.size)
  have HL5 : Hid (BoxL w.heap.size p c q d bs ss V4) := HL4.out.below hbb
  have HG5 : Hid (BoxL w0.heap.size p0 c0 q0 d0 bs ss V4) := HG4.out.below hbb
  have HA5 : Hid (BoxL w1.heap.size p1 c1 q1 d1 zn zn V4) := HA4.out.below hbb
  have HB5 : Hid (BoxL w2.heap.size p2 c2 q2 d2 zn zn V4) := HB4.out.below hbb
  have HC5 : Hid (BoxL w3.heap.size p3 c3 q3 d3 tb ts V4) := HC4.out.below hbb
  have HD5 : Hid (Below w.heap.size w V4) := HD4.out.trans (hbb.mono HD4.out.size)
  have HE5 : Hid (BoxL w4.heap.size p4 c4 q4 d4 tb ts V4) := hA
  clear K4 hn1 hn2 hb hA hbV hbb c0L c1L c0G c1G c0A c1A c0B c1B c0C c1C HL4 HG4 HA4 HB4 HC4 HD4
  have c0L := HL5.out.c0
  have c1L := HL5.out.c1
  have c0G := HG5.out.c0
  have c1G := HG5.out.c1
  have c0A := HA5.out.c0
  have c1A := HA5.out.c1
  have c0B := HB5.out.c0
  have c1B := HB5.out.c1
  have c0C := HC5.out.c0
  have c1C := HC5.out.c1
  have c0E := HE5.out.c0
  have c1E := HE5.out.c1
  have K5 := CA.out _ _ V4 HG5.out.n1 HG5.out.n2
  clear CA
  go_wp2_with fail
  refine K5.mono ?_
  rintro e w5 ⟨p5, c5, rfl, hB, hbb⟩
  have HL6 : Hid (BoxL w.heap.size p c q d bs ss w5) := HL5.out.below hbb
  have HG6 : Hid (BoxL w0.heap.size p0 c0 q0 d0 bs ss w5) := HG5.out.below hbb
  have HA6 : Hid (BoxL w1.heap.size p1 c1 q1 d1 zn zn w5) := HA5.out.below hbb
  have HB6 : Hid (BoxL w2.heap.size p2 c2 q2 d2 zn zn w5) := HB5.out.below hbb
  have HC6 : Hid (BoxL w3.heap.size p3 c3 q3 d3 tb ts w5) := HC5.out.below hbb
  have HE6 : Hid (BoxL w4.heap.size p4 c4 q4 d4 tb ts w5) := HE5.out.below hbb
  have HD6 : Hid (Below w.heap.size w w5) := HD5.out.trans (hbb.mono HD5.out.size)
  have HX6 : Hid (BoolsL w5 (.slice p5 al.length c5) al) := hB
  clear K5 hB hbb c0L c1L c0G c1G c0A c1A c0B c1B c0C c1C c0E c1E HL5 HG5 HA5 HB5 HC5 HE5 HD5
  have c0L := HL6.out.c0
  have c1L := HL6.out.c1
  have c0G := HG6.out.c0
  have c1G := HG6.out.c1
  have c0A := HA6.out.c0
  have c1A := HA6.out.c1
  have c0B := HB6.out.c0
  have c1B := HB6.out.c1
  have c0C := HC6.out.c0
  have c1C := HC6.out.c1
  have c0E := HE6.out.c0
  have c1E := HE6.out.c1
  have K6 := CZ.out _ _ w5 HL6.out.n1 HL6.out.n2
  clear CZ
  go_wp2_with fail
  refine K6.mono ?_
  rintro e w6 ⟨p6, c6, rfl, hB, hbb⟩
  have HL7 : Hid (BoxL w.heap.size p c q d bs ss w6) := HL6.out.below hbb
  have HG7 : Hid (BoxL w0.heap.size p0 c0 q0 d0 bs ss w6) := HG6.out.below hbb
  have HA7 : Hid (BoxL w1.heap.size p1 c1 q1 d1 zn zn w6) := HA6.out.below hbb
  have HB7 : Hid (BoxL w2.heap.size p2 c2 q2 d2 zn zn w6) := HB6.out.below hbb
  have HC7 : Hid (BoxL w3.heap.size p3 c3 q3 d3 tb ts w6) := HC6.out.below hbb
  have HE7 : Hid (BoxL w4.heap.size p4 c4 q4 d4 tb ts w6) := HE6.out.below hbb
  have HX7 : Hid (BoolsL w6 (.slice p5 al.length c5) al) := HX6.out.below hbb
  have HD7 : Hid (Below w.heap.size w w6) := HD6.out.trans (hbb.mono HD6.out.size)
  have HY7 : Hid (BoolsL w6 (.slice p6 al.length c6) al) := hB
  clear K6 hB hbb c0L c1L c0G c1G c0A c1A c0B c1B c0C c1C c0E c1E HL6 HG6 HA6 HB6 HC6 HE6 HX6 HD6
  have t1 : (en != en) = false := by simp
  have t2 : (tf != tf) = false := by simp
  have t3 : (te != te) = false := by simp
  have t4 : (ch != ch) = false := by simp
  have t5 : ((al.length : Int) != (al.length : Int)) = false := by simp
  have c0L := HL7.out.c0
  have c1L := HL7.out.c1
  have c0G := HG7.out.c0
  have c1G := HG7.out.c1
  have c0A := HA7.out.c0
  have c1A := HA7.out.c1
  have c0B := HB7.out.c0
  have c1B := HB7.out.c1
  have c0C := HC7.out.c0
  have c1C := HC7.out.c1
  have c0E := HE7.out.c0
  have c1E := HE7.out.c1
  have K7 := CL.out w6
  go_wp2_with fail
  refine K7.mono ?_
  rintro e w7 ⟨rfl, hb⟩
  clear K7 c0L c1L c0G c1G c0A c1A c0B c1B c0C c1C c0E c1E
  have HL8 : Hid (BoxL w.heap.size p c q d bs ss w7) := HL7.out.below hb
  have HG8 : Hid (BoxL w0.heap.size p0 c0 q0 d0 bs ss w7) := HG7.out.below hb
  have HA8 : Hid (BoxL w1.heap.size p1 c1 q1 d1 zn zn w7) := HA7.out.below hb
  have HB8 : Hid (BoxL w2.heap.size p2 c2 q2 d2 zn zn w7) := HB7.out.below hb
  have HC8 : Hid (BoxL w3.heap.size p3 c3 q3 d3 tb ts w7) := HC7.out.below hb
  have HE8 : Hid (BoxL w4.heap.size p4 c4 q4 d4 tb ts w7) := HE7.out.below hb
  have HX8 : Hid (BoolsL w7 (.slice p5 al.length c5) al) := HX7.out.below hb
  have HY8 : Hid (BoolsL w7 (.slice p6 al.length c6) al) := HY7.out.below hb
  have HD8 : Hid (Below w.heap.size w w7) := HD7.out.trans (hb.mono HD7.out.size)
  clear hb HL7 HG7 HA7 HB7 HC7 HE7 HX7 HY7 HD7
  have c0L := HL8.out.c0
  have c1L := HL8.out.c1
  have c0G := HG8.out.c0
  have c1G := HG8.out.c1
  have c0A := HA8.out.c0
  have c1A := HA8.out.c1
  have c0B := HB8.out.c0
  have c1B := HB8.out.c1
  have c0C := HC8.out.c0
  have c1C := HC8.out.c1
  have c0E := HE8.out.c0
  have c1E := HE8.out.c1
  have K8 := CS.out _ _ _ _ zn zn w7 HA8.out.n1 HA8.out.n2 HB8.out.n1 HB8.out.n2
  go_wp2_with fail
  refine K8.mono ?_
  rintro e w8 ⟨rfl, hb⟩
  clear K8 c0L c1L c0G c1G c0A c1A c0B c1B c0C c1C c0E c1E
  have HL9 : Hid (BoxL w.heap.size p c q d bs ss w8) := HL8.out.below hb
  have HG9 : Hid (BoxL w0.heap.size p0 c0 q0 d0 bs ss w8) := HG8.out.below hb
  have HA9 : Hid (BoxL w1.heap.size p1 c1 q1 d1 zn zn w8) := HA8.out.below hb
  have HB9 : Hid (BoxL w2.heap.size p2 c2 q2 d2 zn zn w8) := HB8.out.below hb
  have HC9 : Hid (BoxL w3.heap.size p3 c3 q3 d3 tb ts w8) := HC8.out.below hb
  have HE9 : Hid (BoxL w4.heap.size p4 c4 q4 d4 tb ts w8) := HE8.out.below hb
  have HX9 : Hid (BoolsL w8 (.slice p5 al.length c5) al) := HX8.out.below hb
  have HY9 : Hid (BoolsL w8 (.slice p6 al.length c6) al) := HY8.out.below hb
  have HD9 : Hid (Below w.heap.size w w8) := HD8.out.trans (hb.mono HD8.out.size)
  clear hb HL8 HG8 HA8 HB8 HC8 HE8 HX8 HY8 HD8
  have c0L := HL9.out.c0
  have c1L := HL9.out.c1
  have c0G := HG9.out.c0
  have c1G := HG9.out.c1
  have c0A := HA9.out.c0
  have c1A := HA9.out.c1
  have c0B := HB9.out.c0
  have c1B := HB9.out.c1
  have c0C := HC9.out.c0
  have c1C := HC9.out.c1
  have c0E := HE9.out.c0
  have c1E := HE9.out.c1
  have K9 := CS.out _ _ _ _ tb ts w8 HC9.out.n1 HC9.out.n2 HE9.out.n1 HE9.out.n2
  go_wp2_with fail
  refine K9.mono ?_
  rintro e w9 ⟨rfl, hb⟩
  clear K9 c0L c1L c0G c1G c0A c1A c0B c1B c0C c1C c0E c1E
  have HL10 : Hid (BoxL w.heap.size p c q d bs ss w9) := HL9.out.below hb
  have HG10 : Hid (BoxL w0.heap.size p0 c0 q0 d0 bs ss w9) := HG9.out.below hb
  have HA10 : Hid (BoxL w1.heap.size p1 c1 q1 d1 zn zn w9) := HA9.out.below hb
  have HB10 : Hid (BoxL w2.heap.size p2 c2 q2 d2 zn zn w9) := HB9.out.below hb
  have HC10 : Hid (BoxL w3.heap.size p3 c3 q3 d3 tb ts w9) := HC9.out.below hb
  have HE10 : Hid (BoxL w4.heap.size p4 c4 q4 d4 tb ts w9) := HE9.out.below hb
  have HX10 : Hid (BoolsL w9 (.slice p5 al.length c5) al) := HX9.out.below hb
  have HY10 : Hid (BoolsL w9 (.slice p6 al.length c6) al) := HY9.out.below hb
  have HD10 : Hid (Below w.heap.size w w9) := HD9.out.trans (hb.mono HD9.out.size)
  clear hb HL9 HG9 HA9 HB9 HC9 HE9 HX9 HY9 HD9
  obtain ⟨px', cx', ev, h8, hpx⟩ := HX10.out
  simp only [Value.slice.injEq] at ev
  obtain ⟨rfl, _, rfl⟩ := ev
  obtain ⟨py', cy', ev, _, hpy⟩ := HY10.out
  simp only [Value.slice.injEq] at ev
  obtain ⟨rfl, _, rfl⟩ := ev
  have HPX : Hid (0 < al.length → _) := hpx
  have HPY : Hid (0 < al.length → _) := hpy
  clear hpx hpy CL
  go_wp2_with fail
  go_loopg [112] al.length (fun gf s112 wx => ∃ i : Nat, s112 = .int .i64 i ∧ i ≤ al.length ∧ al.length ≤ i + gf ∧ Hid (Below w9.heap.size w9 wx))
  case atStart => exact ⟨0, rfl, by omega, by omega, Below.refl _ _⟩
  case round =>
    obtain ⟨i, rfl, hi1, hgf, HB⟩ := hrel
    by_cases hi : i < al.length
    · obtain ⟨g', rfl⟩ : ∃ g', gk = g' + 1 := ⟨gk - 1, by omega⟩
      obtain ⟨bx, ox, rfl, hltx, hcx⟩ := HPX.out (by omega)
      obtain ⟨by_, oy, rfl, hlty, hcy⟩ := HPY.out (by omega)
      have a0 := hcx i hi
      rw [← HB.out.cell (p := ⟨bx, _, none⟩) hltx] at a0
      have b0 := hcy i hi
      rw [← HB.out.cell (p := ⟨by_, _, none⟩) hlty] at b0
      obtain ⟨bb, hbb⟩ : ∃ bb, al[i] = bb := ⟨_, rfl⟩
      rw [hbb] at a0 b0
      have m0 : (0 : Int) ≤ (i : Int) := by omega
      have m1 : (i : Int) < (al.length : Int) := by omega
      have m2 : (bb != bb) = false := by simp
      have HBN : Hid (∀ n, Below w9.heap.size w9 (wr.drewN n)) := fun n => below_drewN HB.out n
      clear hcx hcy hbb
      go_wp2_with fail
      go_quiet (fail)
      go_wp2_with fail
      go_roundg g'
      case measure => omega
      case rel => exact ⟨i + 1, by go_num, by omega, by omega, HBN.out _⟩
    · have m1 : ¬ (i : Int) < (al.length : Int) := by omega
      have LG : Hid (∀ l : LaterS wr.heap.size wr, BoxL w0.heap.size p0 c0 q0 d0 bs ss l.w) := fun l => HG10.out.below (HB.out.trans (l.h.mono HB.out.size))
      have LL : Hid (∀ l : LaterS wr.heap.size wr, BoxL w.heap.size p c q d bs ss l.w) := fun l => HL10.out.below (HB.out.trans (l.h.mono HB.out.size))
      have cG0 := fun l => (LG.out l).c0
      have cG1 := fun l => (LG.out l).c1
      have cL0 := fun l => (LL.out l).c0
      have cL1 := fun l => (LL.out l).c1
      have t6 : (ch == ch) = true := by simp
      have S1 : Hid (∀ l : LaterS wr.heap.size wr, Calls Try.prog 15 #[.agg #[.slice p0 bs.length c0, .slice q0 ss.length d0], .agg #[.slice p bs.length c, .slice q ss.length d]] l.w fun e w' => e = .returned (.bool true) ∧ Below l.w.heap.size l.w w') := fun l => CS.out _ _ _ _ bs ss l.w (LG.out l).n1 (LG.out l).n2 (LL.out l).n1 (LL.out l).n2
      have S2 : Hid (∀ l : LaterS wr.heap.size wr, Calls Try.prog 16 #[.agg #[.slice p0 bs.length c0, .slice q0 ss.length d0]] l.w fun e w' => e = .returned (.int .i64 ch) ∧ Below l.w.heap.size l.w w') := fun l => CK.out _ _ l.w (LG.out l).n1 (LG.out l).n2
      have S3 : Hid (∀ l : LaterS wr.heap.size wr, Calls Try.prog 17 #[.agg #[.slice p bs.length c, .slice q ss.length d]] l.w fun e w' => e = .returned (.int .i64 ch) ∧ Below l.w.heap.size l.w w') := fun l => CQ.out _ _ l.w (LL.out l).n1 (LL.out l).n2
      have HBE : Hid (Below w.heap.size w wr) := HD10.out.trans (HB.out.mono HD10.out.size)
      clear CS CK CQ
      go_wp2_with fail
      have inhL := laterInh
      refine wp_region_laterS mixedOnS (by kernel_rfl) ?_
      repeat (go_big_quiet_step (first
        | (go_at_call 15; exact calls_laterS (S1.out _))
        | (go_at_call 16; exact calls_laterS (S2.out _))
        | (go_at_call 17; exact calls_laterS (S3.out _))))
      refine wpQuiet_nil ?_
      intro wz hw'
      obtain ⟨⟨wq, hwq⟩, hw''⟩ := hw'
      subst hw''
      have HF : Hid (Below w.heap.size w wz) := HBE.out.trans (hwq.mono HBE.out.size)
      clear hwq
      go_wp2_with fail
      go_ret
      exact ⟨rfl, HF.out⟩
end Go.Proofs.Ytdcgppdljcokpaa
