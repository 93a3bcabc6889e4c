/- What frag does answers. -/
import Derived.Test.YtajomnfeicfdlaaGreatDoorWnWoWp
import Derived.Test.YtajomnfeicfdlaaGreatDoorPc
import Derived.Test.YtajomnfeicfdlaaGreatDoorPe
namespace Go.Proofs.YtajomnfeicfdlaaGreatDoor
open Go.Shelf Go.RowKit Go.Lib
set_option linter.unusedVariables false
set_option linter.unusedSimpArgs false
attribute [local go_sem ↓] Go.wp_at_zero Go.wp_at_succ
theorem grows_frg : Grows frgP 4279 := fun st x => by
 have h1 := grows_long st x.id
 have h2 := grows_long (longP st x.id).2 x.nd
 have h3 := grows_sr (longP (longP st x.id).2 x.nd).2 x.l
 have h4 := grows_sr (srP (longP (longP st x.id).2 x.nd).2 x.l).2 x.r
 have h5 := grows_flag (srP (srP (longP (longP st x.id).2 x.nd).2 x.l).2 x.r).2 x.raw
 have h6 := grows_long (flagP (srP (srP (longP (longP st x.id).2 x.nd).2 x.l).2 x.r).2 x.raw).2 x.by_
 have h7 := grows_ints (longP (flagP (srP (srP (longP (longP st x.id).2 x.nd).2 x.l).2 x.r).2 x.raw).2 x.by_).2 x.to
 simp only [frgP]
 omega
set_option maxRecDepth 100000 in
set_option maxHeartbeats 8000000 in
theorem frag_field (t p : Nat) : FieldC rFrg 19 17 frgP 4279 t p 109 := by
 intro K D w st mb cur cs ⟨xi, xd, ⟨yk, yt, ⟨yb, yl⟩, ys, yf⟩, ⟨zk, zt, ⟨zb, zl⟩, zs, zf⟩, xr, xb, xo⟩ htb hnk hbm hDK hlen hcur hrel h hl
 obtain ⟨d1, d2, v0, hcs, hi1, hi2, hy, hz, hi3, hv⟩ := hrel
 simp only at hi1 hi2 hy hz hi3 hv
 have hvx := hv
 obtain ⟨q0, c0, hv0, _⟩ := hvx
 subst hv0
 have hy0 := hy
 have hz0 := hz
 obtain ⟨vy, hcy, _, _, _, _, hly⟩ := hy0
 obtain ⟨vz, hcz, _, _, _, _, hlz⟩ := hz0
 obtain ⟨qy, cy, hvy, _⟩ := hly
 obtain ⟨qz, cz, hvz, _⟩ := hlz
 subst hvy
 subst hvz
 replace hcy : d1 = [Value.int .u8 (yk : Int), Value.string yt, Value.int .u64 (yb : Int), Value.int .u64 (yl : Int), Value.int .i64 ys, Value.slice qy yf.length cy] := hcy
 replace hcz : d2 = [Value.int .u8 (zk : Int), Value.string zt, Value.int .u64 (zb : Int), Value.int .u64 (zl : Int), Value.int .i64 zs, Value.slice qz zf.length cz] := hcz
 subst hcy
 subst hcz
 replace hcs : cs = [Value.int .i64 xi, Value.int .i64 xd, Value.int .u8 (yk : Int), Value.string yt, Value.int .u64 (yb : Int), Value.int .u64 (yl : Int), Value.int .i64 ys, Value.slice qy yf.length cy, Value.int .u8 (zk : Int), Value.string zt, Value.int .u64 (zb : Int), Value.int .u64 (zl : Int), Value.int .i64 zs, Value.slice qz zf.length cz, Value.bool xr, Value.int .i64 xb, Value.slice q0 xo.length c0] := hcs
 subst hcs
 have hml : mb < w.heap.size := (Array.getElem?_eq_some_iff.1 hbm).1
 obtain ⟨W0, hW0, hF0⟩ := Fm.start (lo := 19) h hnk hbm hcur
 obtain ⟨⟨a1, s1⟩, r1⟩ : ∃ q, longP st xi = q := ⟨_, rfl⟩
 have g1 := grows_long st xi
 rw [r1] at g1
 simp only at g1
 have n1 : I64 a1 := by have := longP_in st xi (by assumption); rw [r1] at this; exact this
 have C1 : Hid (Calls Tryz.prog 120 #[.agg #[.iface t (.pointer (some ⟨p, 0, none⟩))], .int .i64 xi] W0.drew fun e w' => e = .returned (.int .i64 a1) ∧ Fm K noB w t p mb 19 cur [Value.int .i64 xi, Value.int .i64 xd, Value.int .u8 (yk : Int), Value.string yt, Value.int .u64 (yb : Int), Value.int .u64 (yl : Int), Value.int .i64 ys, Value.slice qy yf.length cy, Value.int .u8 (zk : Int), Value.string zt, Value.int .u64 (zb : Int), Value.int .u64 (zl : Int), Value.int .i64 zs, Value.slice qz zf.length cz, Value.bool xr, Value.int .i64 xb, Value.slice q0 xo.length c0] w' s1 ∧ Kept (fun b => K b ∨ noB b) W0.drew w') := by
  refine hF0.drew.call (R := fun e => e = .returned (.int .i64 a1)) ?_
  have := whole_any _ t p st xi W0.drew hF0.drew.port (by first | assumption | omega) (by omega)
  rw [r1] at this
  exact this
 have cw1 : W0.drew.cell? ⟨w.heap.size, 0, none⟩ = _ := hF0.drew.cell0
 have cc1_0 : W0.drew.cell? ⟨mb, 19, none⟩ = _ := hF0.drew.cell1 (k := 19) (i := 0) rfl rfl
 have HF1 : Hid (Fm K noB w t p mb 19 cur [Value.int .i64 xi, Value.int .i64 xd, Value.int .u8 (yk : Int), Value.string yt, Value.int .u64 (yb : Int), Value.int .u64 (yl : Int), Value.int .i64 ys, Value.slice qy yf.length cy, Value.int .u8 (zk : Int), Value.string zt, Value.int .u64 (zb : Int), Value.int .u64 (zl : Int), Value.int .i64 zs, Value.slice qz zf.length cz, Value.bool xr, Value.int .i64 xb, Value.slice q0 xo.length c0] W0 st) := hF0
 clear hF0
 show Calls Tryz.prog 109 #[.agg #[.iface t (.pointer (some ⟨p, 0, none⟩))], .pointer (some ⟨mb, 0, none⟩)] w _
 go_enter Tryz.func109, Tryz.ntmps109
 go_wp2_with fail
 refine via (A := fun WX => Fm K noB w t p mb 19 cur [Value.int .i64 a1, Value.int .i64 xd, Value.int .u8 (yk : Int), Value.string yt, Value.int .u64 (yb : Int), Value.int .u64 (yl : Int), Value.int .i64 ys, Value.slice qy yf.length cy, Value.int .u8 (zk : Int), Value.string zt, Value.int .u64 (zb : Int), Value.int .u64 (zl : Int), Value.int .i64 zs, Value.slice qz zf.length cz, Value.bool xr, Value.int .i64 xb, Value.slice q0 xo.length c0] WX s1 ∧ Kept (fun b => K b ∨ noB b) W0 WX) (Q := ?Q1) (fun key => ?a1) ?b1
 case a1 =>
  go_region_with (go_at_call 120; refine C1.out.mono ?_; rintro e w1 ⟨rfl, hF1a, hKa1⟩; have x1_0 := hF1a.cell1 (k := 19) (i := 0) rfl rfl; have z1_0 := hF1a.fz1 19; obtain ⟨W1_0, hW1_0, hF1_0, hK1_0⟩ := hF1a.set1 19 0 (Value.int .i64 a1) rfl (by simp); replace hF1_0 : Fm K noB w t p mb 19 cur [Value.int .i64 a1, Value.int .i64 xd, Value.int .u8 (yk : Int), Value.string yt, Value.int .u64 (yb : Int), Value.int .u64 (yl : Int), Value.int .i64 ys, Value.slice qy yf.length cy, Value.int .u8 (zk : Int), Value.string zt, Value.int .u64 (zb : Int), Value.int .u64 (zl : Int), Value.int .i64 zs, Value.slice qz zf.length cz, Value.bool xr, Value.int .i64 xb, Value.slice q0 xo.length c0] W1_0 s1 := hF1_0)
  all_goals exact key _ ⟨hF1_0, (((Kept.refl _ _).drew.trans hKa1).trans hK1_0)⟩
 rintro W1 ⟨hF1b, hK1⟩
 clear C1 cw1 HF1 hK1 cc1_0
 obtain ⟨⟨a2, s2⟩, r2⟩ : ∃ q, longP s1 xd = q := ⟨_, rfl⟩
 have g2 := grows_long s1 xd
 rw [r2] at g2
 simp only at g2
 have n2 : I64 a2 := by have := longP_in s1 xd (by assumption); rw [r2] at this; exact this
 have C2 : Hid (Calls Tryz.prog 120 #[.agg #[.iface t (.pointer (some ⟨p, 0, none⟩))], .int .i64 xd] W1.drew fun e w' => e = .returned (.int .i64 a2) ∧ Fm K noB w t p mb 19 cur [Value.int .i64 a1, Value.int .i64 xd, Value.int .u8 (yk : Int), Value.string yt, Value.int .u64 (yb : Int), Value.int .u64 (yl : Int), Value.int .i64 ys, Value.slice qy yf.length cy, Value.int .u8 (zk : Int), Value.string zt, Value.int .u64 (zb : Int), Value.int .u64 (zl : Int), Value.int .i64 zs, Value.slice qz zf.length cz, Value.bool xr, Value.int .i64 xb, Value.slice q0 xo.length c0] w' s2 ∧ Kept (fun b => K b ∨ noB b) W1.drew w') := by
  refine hF1b.drew.call (R := fun e => e = .returned (.int .i64 a2)) ?_
  have := whole_any _ t p s1 xd W1.drew hF1b.drew.port (by first | assumption | omega) (by omega)
  rw [r2] at this
  exact this
 have cw2 : W1.drew.cell? ⟨w.heap.size, 0, none⟩ = _ := hF1b.drew.cell0
 have cc2_0 : W1.drew.cell? ⟨mb, 20, none⟩ = _ := hF1b.drew.cell1 (k := 20) (i := 1) rfl rfl
 have HF2 : Hid (Fm K noB w t p mb 19 cur [Value.int .i64 a1, Value.int .i64 xd, Value.int .u8 (yk : Int), Value.string yt, Value.int .u64 (yb : Int), Value.int .u64 (yl : Int), Value.int .i64 ys, Value.slice qy yf.length cy, Value.int .u8 (zk : Int), Value.string zt, Value.int .u64 (zb : Int), Value.int .u64 (zl : Int), Value.int .i64 zs, Value.slice qz zf.length cz, Value.bool xr, Value.int .i64 xb, Value.slice q0 xo.length c0] W1 s1) := hF1b
 clear hF1b
 go_wp2_with fail
 refine via (A := fun WX => Fm K noB w t p mb 19 cur [Value.int .i64 a1, Value.int .i64 a2, Value.int .u8 (yk : Int), Value.string yt, Value.int .u64 (yb : Int), Value.int .u64 (yl : Int), Value.int .i64 ys, Value.slice qy yf.length cy, Value.int .u8 (zk : Int), Value.string zt, Value.int .u64 (zb : Int), Value.int .u64 (zl : Int), Value.int .i64 zs, Value.slice qz zf.length cz, Value.bool xr, Value.int .i64 xb, Value.slice q0 xo.length c0] WX s2 ∧ Kept (fun b => K b ∨ noB b) W1 WX) (Q := ?Q2) (fun key => ?a2) ?b2
 case a2 =>
  go_region_with (go_at_call 120; refine C2.out.mono ?_; rintro e w2 ⟨rfl, hF2a, hKa2⟩; have x2_0 := hF2a.cell1 (k := 20) (i := 1) rfl rfl; have z2_0 := hF2a.fz1 20; obtain ⟨W2_0, hW2_0, hF2_0, hK2_0⟩ := hF2a.set1 20 1 (Value.int .i64 a2) rfl (by simp); replace hF2_0 : Fm K noB w t p mb 19 cur [Value.int .i64 a1, Value.int .i64 a2, Value.int .u8 (yk : Int), Value.string yt, Value.int .u64 (yb : Int), Value.int .u64 (yl : Int), Value.int .i64 ys, Value.slice qy yf.length cy, Value.int .u8 (zk : Int), Value.string zt, Value.int .u64 (zb : Int), Value.int .u64 (zl : Int), Value.int .i64 zs, Value.slice qz zf.length cz, Value.bool xr, Value.int .i64 xb, Value.slice q0 xo.length c0] W2_0 s2 := hF2_0)
  all_goals exact key _ ⟨hF2_0, (((Kept.refl _ _).drew.trans hKa2).trans hK2_0)⟩
 rintro W2 ⟨hF2b, hK2⟩
 clear C2 cw2 HF2 hK2 cc2_0
 obtain ⟨⟨⟨a3k, a3t, ⟨a3b, a3l⟩, a3s, a3f⟩, s3⟩, r3⟩ : ∃ q, srP s2 ⟨yk, yt, ⟨yb, yl⟩, ys, yf⟩ = q := ⟨_, rfl⟩
 have g3 := grows_sr s2 ⟨yk, yt, ⟨yb, yl⟩, ys, yf⟩
 rw [r3] at g3
 simp only at g3
 have hli3 : rSr D W2.drew [Value.int .u8 (yk : Int), Value.string yt, Value.int .u64 (yb : Int), Value.int .u64 (yl : Int), Value.int .i64 ys, Value.slice qy yf.length cy] ⟨yk, yt, ⟨yb, yl⟩, ys, yf⟩ := mSr _ _ _ _ _ _ (fun _ h => h) (hF2b.drew.kept.less hDK) hy
 have C3 : Hid (Calls Tryz.prog 131 #[.agg #[.iface t (.pointer (some ⟨p, 0, none⟩))], .agg #[Value.int .u8 (yk : Int), Value.string yt, Value.int .u64 (yb : Int), Value.int .u64 (yl : Int), Value.int .i64 ys, Value.slice qy yf.length cy]] W2.drew fun e w' => ∃ N3 : Nat → Prop, (∃ q c, e = .returned (.agg #[Value.int .u8 (a3k : Int), Value.string a3t, Value.int .u64 (a3b : Int), Value.int .u64 (a3l : Int), Value.int .i64 a3s, Value.slice q a3f.length c]) ∧ (ListIs rInt 1 8 (fun b => D b ∨ N3 b) w' (.slice q a3f.length c) a3f) ∧ a3k < 256 ∧ small a3t ∧ okV ⟨a3b, a3l⟩ ∧ I64 a3s) ∧ Fm K (fun b => noB b ∨ N3 b) w t p mb 19 cur [Value.int .i64 a1, Value.int .i64 a2, Value.int .u8 (yk : Int), Value.string yt, Value.int .u64 (yb : Int), Value.int .u64 (yl : Int), Value.int .i64 ys, Value.slice qy yf.length cy, Value.int .u8 (zk : Int), Value.string zt, Value.int .u64 (zb : Int), Value.int .u64 (zl : Int), Value.int .i64 zs, Value.slice qz zf.length cz, Value.bool xr, Value.int .i64 xb, Value.slice q0 xo.length c0] w' s3 ∧ Kept (fun b => K b ∨ noB b) W2.drew w') := by
  refine hF2b.drew.callN (R := fun N e w' => ∃ q c, e = .returned (.agg #[Value.int .u8 (a3k : Int), Value.string a3t, Value.int .u64 (a3b : Int), Value.int .u64 (a3l : Int), Value.int .i64 a3s, Value.slice q a3f.length c]) ∧ (ListIs rInt 1 8 (fun b => D b ∨ N b) w' (.slice q a3f.length c) a3f) ∧ a3k < 256 ∧ small a3t ∧ okV ⟨a3b, a3l⟩ ∧ I64 a3s) ?_
  have := source_part t p _ D W2.drew s2 [Value.int .u8 (yk : Int), Value.string yt, Value.int .u64 (yb : Int), Value.int .u64 (yl : Int), Value.int .i64 ys, Value.slice qy yf.length cy] ⟨yk, yt, ⟨yb, yl⟩, ys, yf⟩ (htb.mono (fun b hb => Or.inl hb) hF2b.drew.kept) hF2b.drew.port (fun b hb => .inl (hDK b hb)) hli3 (by omega)
  refine this.mono ?_
  rintro e w' ⟨N, cs', rfl, h1, h2, h3, h4⟩
  replace h2 : PortIs _ w' t p (srP s2 ⟨yk, yt, ⟨yb, yl⟩, ys, yf⟩).2 := h2
  rw [r3] at h2 h3
  obtain ⟨v, hcs', k1, k2, k3, k4, k5⟩ := h3
  obtain ⟨q, c, rfl, h5⟩ := k5
  replace hcs' : cs' = [Value.int .u8 (a3k : Int), Value.string a3t, Value.int .u64 (a3b : Int), Value.int .u64 (a3l : Int), Value.int .i64 a3s, Value.slice q a3f.length c] := hcs'
  subst hcs'
  exact ⟨N, ⟨q, c, rfl, ⟨q, c, rfl, h5⟩, k1, k2, k3, k4⟩, h1, h2, h4⟩
 have cw3 : W2.drew.cell? ⟨w.heap.size, 0, none⟩ = _ := hF2b.drew.cell0
 have cc3_0 : W2.drew.cell? ⟨mb, 21, none⟩ = _ := hF2b.drew.cell1 (k := 21) (i := 2) rfl rfl
 have cc3_1 : W2.drew.cell? ⟨mb, 22, none⟩ = _ := hF2b.drew.cell1 (k := 22) (i := 3) rfl rfl
 have cc3_2 : W2.drew.cell? ⟨mb, 23, none⟩ = _ := hF2b.drew.cell1 (k := 23) (i := 4) rfl rfl
 have cc3_3 : W2.drew.cell? ⟨mb, 24, none⟩ = _ := hF2b.drew.cell1 (k := 24) (i := 5) rfl rfl
 have cc3_4 : W2.drew.cell? ⟨mb, 25, none⟩ = _ := hF2b.drew.cell1 (k := 25) (i := 6) rfl rfl
 have cc3_5 : W2.drew.cell? ⟨mb, 26, none⟩ = _ := hF2b.drew.cell1 (k := 26) (i := 7) rfl rfl
 have HF3 : Hid (Fm K noB w t p mb 19 cur [Value.int .i64 a1, Value.int .i64 a2, Value.int .u8 (yk : Int), Value.string yt, Value.int .u64 (yb : Int), Value.int .u64 (yl : Int), Value.int .i64 ys, Value.slice qy yf.length cy, Value.int .u8 (zk : Int), Value.string zt, Value.int .u64 (zb : Int), Value.int .u64 (zl : Int), Value.int .i64 zs, Value.slice qz zf.length cz, Value.bool xr, Value.int .i64 xb, Value.slice q0 xo.length c0] W2 s2) := hF2b
 clear hF2b
 go_wp2_with fail
 refine viaN (A := fun N3 q c WX => (Fm K (fun b => noB b ∨ N3 b) w t p mb 19 cur [Value.int .i64 a1, Value.int .i64 a2, Value.int .u8 (a3k : Int), Value.string a3t, Value.int .u64 (a3b : Int), Value.int .u64 (a3l : Int), Value.int .i64 a3s, Value.slice q a3f.length c, Value.int .u8 (zk : Int), Value.string zt, Value.int .u64 (zb : Int), Value.int .u64 (zl : Int), Value.int .i64 zs, Value.slice qz zf.length cz, Value.bool xr, Value.int .i64 xb, Value.slice q0 xo.length c0] WX s3 ∧ Kept (fun b => K b ∨ noB b) W2 WX) ∧ ListIs rInt 1 8 (fun b => D b ∨ N3 b) WX (.slice q a3f.length c) a3f ∧ (a3k < 256 ∧ small a3t ∧ okV ⟨a3b, a3l⟩ ∧ I64 a3s)) (Q := ?Q3) (fun key => ?a3) ?b3
 case a3 =>
  go_region_with (go_at_call 131; refine C3.out.mono ?_; rintro e w3 ⟨N3, ⟨q3, c3, rfl, hd3, ok3⟩, hF3a, hKa3⟩; have x3_0 := hF3a.cell1 (k := 21) (i := 2) rfl rfl; have z3_0 := hF3a.fz1 21; obtain ⟨W3_0, hW3_0, hF3_0, hK3_0⟩ := hF3a.set1 21 2 (Value.int .u8 (a3k : Int)) rfl (by simp); replace hF3_0 : Fm K (fun b => noB b ∨ N3 b) w t p mb 19 cur [Value.int .i64 a1, Value.int .i64 a2, Value.int .u8 (a3k : Int), Value.string yt, Value.int .u64 (yb : Int), Value.int .u64 (yl : Int), Value.int .i64 ys, Value.slice qy yf.length cy, Value.int .u8 (zk : Int), Value.string zt, Value.int .u64 (zb : Int), Value.int .u64 (zl : Int), Value.int .i64 zs, Value.slice qz zf.length cz, Value.bool xr, Value.int .i64 xb, Value.slice q0 xo.length c0] W3_0 s3 := hF3_0; have x3_1 := hF3_0.cell1 (k := 22) (i := 3) rfl rfl; have z3_1 := hF3_0.fz1 22; obtain ⟨W3_1, hW3_1, hF3_1, hK3_1⟩ := hF3_0.set1 22 3 (Value.string a3t) rfl (by simp); replace hF3_1 : Fm K (fun b => noB b ∨ N3 b) w t p mb 19 cur [Value.int .i64 a1, Value.int .i64 a2, Value.int .u8 (a3k : Int), Value.string a3t, Value.int .u64 (yb : Int), Value.int .u64 (yl : Int), Value.int .i64 ys, Value.slice qy yf.length cy, Value.int .u8 (zk : Int), Value.string zt, Value.int .u64 (zb : Int), Value.int .u64 (zl : Int), Value.int .i64 zs, Value.slice qz zf.length cz, Value.bool xr, Value.int .i64 xb, Value.slice q0 xo.length c0] W3_1 s3 := hF3_1; have x3_2 := hF3_1.cell1 (k := 23) (i := 4) rfl rfl; have z3_2 := hF3_1.fz1 23; obtain ⟨W3_2, hW3_2, hF3_2, hK3_2⟩ := hF3_1.set1 23 4 (Value.int .u64 (a3b : Int)) rfl (by simp); replace hF3_2 : Fm K (fun b => noB b ∨ N3 b) w t p mb 19 cur [Value.int .i64 a1, Value.int .i64 a2, Value.int .u8 (a3k : Int), Value.string a3t, Value.int .u64 (a3b : Int), Value.int .u64 (yl : Int), Value.int .i64 ys, Value.slice qy yf.length cy, Value.int .u8 (zk : Int), Value.string zt, Value.int .u64 (zb : Int), Value.int .u64 (zl : Int), Value.int .i64 zs, Value.slice qz zf.length cz, Value.bool xr, Value.int .i64 xb, Value.slice q0 xo.length c0] W3_2 s3 := hF3_2; have x3_3 := hF3_2.cell1 (k := 24) (i := 5) rfl rfl; have z3_3 := hF3_2.fz1 24; obtain ⟨W3_3, hW3_3, hF3_3, hK3_3⟩ := hF3_2.set1 24 5 (Value.int .u64 (a3l : Int)) rfl (by simp); replace hF3_3 : Fm K (fun b => noB b ∨ N3 b) w t p mb 19 cur [Value.int .i64 a1, Value.int .i64 a2, Value.int .u8 (a3k : Int), Value.string a3t, Value.int .u64 (a3b : Int), Value.int .u64 (a3l : Int), Value.int .i64 ys, Value.slice qy yf.length cy, Value.int .u8 (zk : Int), Value.string zt, Value.int .u64 (zb : Int), Value.int .u64 (zl : Int), Value.int .i64 zs, Value.slice qz zf.length cz, Value.bool xr, Value.int .i64 xb, Value.slice q0 xo.length c0] W3_3 s3 := hF3_3; have x3_4 := hF3_3.cell1 (k := 25) (i := 6) rfl rfl; have z3_4 := hF3_3.fz1 25; obtain ⟨W3_4, hW3_4, hF3_4, hK3_4⟩ := hF3_3.set1 25 6 (Value.int .i64 a3s) rfl (by simp); replace hF3_4 : Fm K (fun b => noB b ∨ N3 b) w t p mb 19 cur [Value.int .i64 a1, Value.int .i64 a2, Value.int .u8 (a3k : Int), Value.string a3t, Value.int .u64 (a3b : Int), Value.int .u64 (a3l : Int), Value.int .i64 a3s, Value.slice qy yf.length cy, Value.int .u8 (zk : Int), Value.string zt, Value.int .u64 (zb : Int), Value.int .u64 (zl : Int), Value.int .i64 zs, Value.slice qz zf.length cz, Value.bool xr, Value.int .i64 xb, Value.slice q0 xo.length c0] W3_4 s3 := hF3_4; have x3_5 := hF3_4.cell1 (k := 26) (i := 7) rfl rfl; have z3_5 := hF3_4.fz1 26; obtain ⟨W3_5, hW3_5, hF3_5, hK3_5⟩ := hF3_4.set1 26 7 (Value.slice q3 a3f.length c3) rfl (by simp); replace hF3_5 : Fm K (fun b => noB b ∨ N3 b) w t p mb 19 cur [Value.int .i64 a1, Value.int .i64 a2, Value.int .u8 (a3k : Int), Value.string a3t, Value.int .u64 (a3b : Int), Value.int .u64 (a3l : Int), Value.int .i64 a3s, Value.slice q3 a3f.length c3, Value.int .u8 (zk : Int), Value.string zt, Value.int .u64 (zb : Int), Value.int .u64 (zl : Int), Value.int .i64 zs, Value.slice qz zf.length cz, Value.bool xr, Value.int .i64 xb, Value.slice q0 xo.length c0] W3_5 s3 := hF3_5)
  all_goals exact key N3 q3 c3 _ ⟨⟨hF3_5, ((((((((Kept.refl _ _).drew.trans hKa3).trans (hK3_0.less (fun b hb => hb.elim Or.inl (fun h => Or.inr (Or.inl h))))).trans (hK3_1.less (fun b hb => hb.elim Or.inl (fun h => Or.inr (Or.inl h))))).trans (hK3_2.less (fun b hb => hb.elim Or.inl (fun h => Or.inr (Or.inl h))))).trans (hK3_3.less (fun b hb => hb.elim Or.inl (fun h => Or.inr (Or.inl h))))).trans (hK3_4.less (fun b hb => hb.elim Or.inl (fun h => Or.inr (Or.inl h))))).trans (hK3_5.less (fun b hb => hb.elim Or.inl (fun h => Or.inr (Or.inl h)))))⟩, (ListIs.mono mInt (fun _ h => h) (hK3_5.less (fun b hb => hb.elim (fun h => Or.inl (hDK b h)) (fun h => Or.inr (Or.inr h)))) (ListIs.mono mInt (fun _ h => h) (hK3_4.less (fun b hb => hb.elim (fun h => Or.inl (hDK b h)) (fun h => Or.inr (Or.inr h)))) (ListIs.mono mInt (fun _ h => h) (hK3_3.less (fun b hb => hb.elim (fun h => Or.inl (hDK b h)) (fun h => Or.inr (Or.inr h)))) (ListIs.mono mInt (fun _ h => h) (hK3_2.less (fun b hb => hb.elim (fun h => Or.inl (hDK b h)) (fun h => Or.inr (Or.inr h)))) (ListIs.mono mInt (fun _ h => h) (hK3_1.less (fun b hb => hb.elim (fun h => Or.inl (hDK b h)) (fun h => Or.inr (Or.inr h)))) (ListIs.mono mInt (fun _ h => h) (hK3_0.less (fun b hb => hb.elim (fun h => Or.inl (hDK b h)) (fun h => Or.inr (Or.inr h)))) hd3)))))), ok3⟩
 rintro N3 q3 c3 W3 ⟨⟨hF3b, hK3⟩, hd3, ok3⟩
 clear C3 cw3 HF3 hK3 cc3_0 cc3_1 cc3_2 cc3_3 cc3_4 cc3_5
 obtain ⟨⟨⟨a4k, a4t, ⟨a4b, a4l⟩, a4s, a4f⟩, s4⟩, r4⟩ : ∃ q, srP s3 ⟨zk, zt, ⟨zb, zl⟩, zs, zf⟩ = q := ⟨_, rfl⟩
 have g4 := grows_sr s3 ⟨zk, zt, ⟨zb, zl⟩, zs, zf⟩
 rw [r4] at g4
 simp only at g4
 have hli4 : rSr D W3.drew [Value.int .u8 (zk : Int), Value.string zt, Value.int .u64 (zb : Int), Value.int .u64 (zl : Int), Value.int .i64 zs, Value.slice qz zf.length cz] ⟨zk, zt, ⟨zb, zl⟩, zs, zf⟩ := mSr _ _ _ _ _ _ (fun _ h => h) (hF3b.drew.kept.less hDK) hz
 have C4 : Hid (Calls Tryz.prog 131 #[.agg #[.iface t (.pointer (some ⟨p, 0, none⟩))], .agg #[Value.int .u8 (zk : Int), Value.string zt, Value.int .u64 (zb : Int), Value.int .u64 (zl : Int), Value.int .i64 zs, Value.slice qz zf.length cz]] W3.drew fun e w' => ∃ N4 : Nat → Prop, (∃ q c, e = .returned (.agg #[Value.int .u8 (a4k : Int), Value.string a4t, Value.int .u64 (a4b : Int), Value.int .u64 (a4l : Int), Value.int .i64 a4s, Value.slice q a4f.length c]) ∧ (ListIs rInt 1 8 (fun b => D b ∨ N4 b) w' (.slice q a4f.length c) a4f) ∧ a4k < 256 ∧ small a4t ∧ okV ⟨a4b, a4l⟩ ∧ I64 a4s) ∧ Fm K (fun b => (fun b => noB b ∨ N3 b) b ∨ N4 b) w t p mb 19 cur [Value.int .i64 a1, Value.int .i64 a2, Value.int .u8 (a3k : Int), Value.string a3t, Value.int .u64 (a3b : Int), Value.int .u64 (a3l : Int), Value.int .i64 a3s, Value.slice q3 a3f.length c3, Value.int .u8 (zk : Int), Value.string zt, Value.int .u64 (zb : Int), Value.int .u64 (zl : Int), Value.int .i64 zs, Value.slice qz zf.length cz, Value.bool xr, Value.int .i64 xb, Value.slice q0 xo.length c0] w' s4 ∧ Kept (fun b => K b ∨ (fun b => noB b ∨ N3 b) b) W3.drew w') := by
  refine hF3b.drew.callN (R := fun N e w' => ∃ q c, e = .returned (.agg #[Value.int .u8 (a4k : Int), Value.string a4t, Value.int .u64 (a4b : Int), Value.int .u64 (a4l : Int), Value.int .i64 a4s, Value.slice q a4f.length c]) ∧ (ListIs rInt 1 8 (fun b => D b ∨ N b) w' (.slice q a4f.length c) a4f) ∧ a4k < 256 ∧ small a4t ∧ okV ⟨a4b, a4l⟩ ∧ I64 a4s) ?_
  have := source_part t p _ D W3.drew s3 [Value.int .u8 (zk : Int), Value.string zt, Value.int .u64 (zb : Int), Value.int .u64 (zl : Int), Value.int .i64 zs, Value.slice qz zf.length cz] ⟨zk, zt, ⟨zb, zl⟩, zs, zf⟩ (htb.mono (fun b hb => Or.inl hb) hF3b.drew.kept) hF3b.drew.port (fun b hb => .inl (hDK b hb)) hli4 (by omega)
  refine this.mono ?_
  rintro e w' ⟨N, cs', rfl, h1, h2, h3, h4⟩
  replace h2 : PortIs _ w' t p (srP s3 ⟨zk, zt, ⟨zb, zl⟩, zs, zf⟩).2 := h2
  rw [r4] at h2 h3
  obtain ⟨v, hcs', k1, k2, k3, k4, k5⟩ := h3
  obtain ⟨q, c, rfl, h5⟩ := k5
  replace hcs' : cs' = [Value.int .u8 (a4k : Int), Value.string a4t, Value.int .u64 (a4b : Int), Value.int .u64 (a4l : Int), Value.int .i64 a4s, Value.slice q a4f.length c] := hcs'
  subst hcs'
  exact ⟨N, ⟨q, c, rfl, ⟨q, c, rfl, h5⟩, k1, k2, k3, k4⟩, h1, h2, h4⟩
 have cw4 : W3.drew.cell? ⟨w.heap.size, 0, none⟩ = _ := hF3b.drew.cell0
 have cc4_0 : W3.drew.cell? ⟨mb, 27, none⟩ = _ := hF3b.drew.cell1 (k := 27) (i := 8) rfl rfl
 have cc4_1 : W3.drew.cell? ⟨mb, 28, none⟩ = _ := hF3b.drew.cell1 (k := 28) (i := 9) rfl rfl
 have cc4_2 : W3.drew.cell? ⟨mb, 29, none⟩ = _ := hF3b.drew.cell1 (k := 29) (i := 10) rfl rfl
 have cc4_3 : W3.drew.cell? ⟨mb, 30, none⟩ = _ := hF3b.drew.cell1 (k := 30) (i := 11) rfl rfl
 have cc4_4 : W3.drew.cell? ⟨mb, 31, none⟩ = _ := hF3b.drew.cell1 (k := 31) (i := 12) rfl rfl
 have cc4_5 : W3.drew.cell? ⟨mb, 32, none⟩ = _ := hF3b.drew.cell1 (k := 32) (i := 13) rfl rfl
 have HF4 : Hid (Fm K (fun b => noB b ∨ N3 b) w t p mb 19 cur [Value.int .i64 a1, Value.int .i64 a2, Value.int .u8 (a3k : Int), Value.string a3t, Value.int .u64 (a3b : Int), Value.int .u64 (a3l : Int), Value.int .i64 a3s, Value.slice q3 a3f.length c3, Value.int .u8 (zk : Int), Value.string zt, Value.int .u64 (zb : Int), Value.int .u64 (zl : Int), Value.int .i64 zs, Value.slice qz zf.length cz, Value.bool xr, Value.int .i64 xb, Value.slice q0 xo.length c0] W3 s3) := hF3b
 clear hF3b
 go_wp2_with fail
 refine viaN (A := fun N4 q c WX => (Fm K (fun b => (fun b => noB b ∨ N3 b) b ∨ N4 b) w t p mb 19 cur [Value.int .i64 a1, Value.int .i64 a2, Value.int .u8 (a3k : Int), Value.string a3t, Value.int .u64 (a3b : Int), Value.int .u64 (a3l : Int), Value.int .i64 a3s, Value.slice q3 a3f.length c3, Value.int .u8 (a4k : Int), Value.string a4t, Value.int .u64 (a4b : Int), Value.int .u64 (a4l : Int), Value.int .i64 a4s, Value.slice q a4f.length c, Value.bool xr, Value.int .i64 xb, Value.slice q0 xo.length c0] WX s4 ∧ Kept (fun b => K b ∨ (fun b => noB b ∨ N3 b) b) W3 WX) ∧ ListIs rInt 1 8 (fun b => D b ∨ N4 b) WX (.slice q a4f.length c) a4f ∧ (a4k < 256 ∧ small a4t ∧ okV ⟨a4b, a4l⟩ ∧ I64 a4s)) (Q := ?Q4) (fun key => ?a4) ?b4
 case a4 =>
  go_region_with (go_at_call 131; refine C4.out.mono ?_; rintro e w4 ⟨N4, ⟨q4, c4, rfl, hd4, ok4⟩, hF4a, hKa4⟩; have x4_0 := hF4a.cell1 (k := 27) (i := 8) rfl rfl; have z4_0 := hF4a.fz1 27; obtain ⟨W4_0, hW4_0, hF4_0, hK4_0⟩ := hF4a.set1 27 8 (Value.int .u8 (a4k : Int)) rfl (by simp); replace hF4_0 : Fm K (fun b => (fun b => noB b ∨ N3 b) b ∨ N4 b) w t p mb 19 cur [Value.int .i64 a1, Value.int .i64 a2, Value.int .u8 (a3k : Int), Value.string a3t, Value.int .u64 (a3b : Int), Value.int .u64 (a3l : Int), Value.int .i64 a3s, Value.slice q3 a3f.length c3, Value.int .u8 (a4k : Int), Value.string zt, Value.int .u64 (zb : Int), Value.int .u64 (zl : Int), Value.int .i64 zs, Value.slice qz zf.length cz, Value.bool xr, Value.int .i64 xb, Value.slice q0 xo.length c0] W4_0 s4 := hF4_0; have x4_1 := hF4_0.cell1 (k := 28) (i := 9) rfl rfl; have z4_1 := hF4_0.fz1 28; obtain ⟨W4_1, hW4_1, hF4_1, hK4_1⟩ := hF4_0.set1 28 9 (Value.string a4t) rfl (by simp); replace hF4_1 : Fm K (fun b => (fun b => noB b ∨ N3 b) b ∨ N4 b) w t p mb 19 cur [Value.int .i64 a1, Value.int .i64 a2, Value.int .u8 (a3k : Int), Value.string a3t, Value.int .u64 (a3b : Int), Value.int .u64 (a3l : Int), Value.int .i64 a3s, Value.slice q3 a3f.length c3, Value.int .u8 (a4k : Int), Value.string a4t, Value.int .u64 (zb : Int), Value.int .u64 (zl : Int), Value.int .i64 zs, Value.slice qz zf.length cz, Value.bool xr, Value.int .i64 xb, Value.slice q0 xo.length c0] W4_1 s4 := hF4_1; have x4_2 := hF4_1.cell1 (k := 29) (i := 10) rfl rfl; have z4_2 := hF4_1.fz1 29; obtain ⟨W4_2, hW4_2, hF4_2, hK4_2⟩ := hF4_1.set1 29 10 (Value.int .u64 (a4b : Int)) rfl (by simp); replace hF4_2 : Fm K (fun b => (fun b => noB b ∨ N3 b) b ∨ N4 b) w t p mb 19 cur [Value.int .i64 a1, Value.int .i64 a2, Value.int .u8 (a3k : Int), Value.string a3t, Value.int .u64 (a3b : Int), Value.int .u64 (a3l : Int), Value.int .i64 a3s, Value.slice q3 a3f.length c3, Value.int .u8 (a4k : Int), Value.string a4t, Value.int .u64 (a4b : Int), Value.int .u64 (zl : Int), Value.int .i64 zs, Value.slice qz zf.length cz, Value.bool xr, Value.int .i64 xb, Value.slice q0 xo.length c0] W4_2 s4 := hF4_2; have x4_3 := hF4_2.cell1 (k := 30) (i := 11) rfl rfl; have z4_3 := hF4_2.fz1 30; obtain ⟨W4_3, hW4_3, hF4_3, hK4_3⟩ := hF4_2.set1 30 11 (Value.int .u64 (a4l : Int)) rfl (by simp); replace hF4_3 : Fm K (fun b => (fun b => noB b ∨ N3 b) b ∨ N4 b) w t p mb 19 cur [Value.int .i64 a1, Value.int .i64 a2, Value.int .u8 (a3k : Int), Value.string a3t, Value.int .u64 (a3b : Int), Value.int .u64 (a3l : Int), Value.int .i64 a3s, Value.slice q3 a3f.length c3, Value.int .u8 (a4k : Int), Value.string a4t, Value.int .u64 (a4b : Int), Value.int .u64 (a4l : Int), Value.int .i64 zs, Value.slice qz zf.length cz, Value.bool xr, Value.int .i64 xb, Value.slice q0 xo.length c0] W4_3 s4 := hF4_3; have x4_4 := hF4_3.cell1 (k := 31) (i := 12) rfl rfl; have z4_4 := hF4_3.fz1 31; obtain ⟨W4_4, hW4_4, hF4_4, hK4_4⟩ := hF4_3.set1 31 12 (Value.int .i64 a4s) rfl (by simp); replace hF4_4 : Fm K (fun b => (fun b => noB b ∨ N3 b) b ∨ N4 b) w t p mb 19 cur [Value.int .i64 a1, Value.int .i64 a2, Value.int .u8 (a3k : Int), Value.string a3t, Value.int .u64 (a3b : Int), Value.int .u64 (a3l : Int), Value.int .i64 a3s, Value.slice q3 a3f.length c3, Value.int .u8 (a4k : Int), Value.string a4t, Value.int .u64 (a4b : Int), Value.int .u64 (a4l : Int), Value.int .i64 a4s, Value.slice qz zf.length cz, Value.bool xr, Value.int .i64 xb, Value.slice q0 xo.length c0] W4_4 s4 := hF4_4; have x4_5 := hF4_4.cell1 (k := 32) (i := 13) rfl rfl; have z4_5 := hF4_4.fz1 32; obtain ⟨W4_5, hW4_5, hF4_5, hK4_5⟩ := hF4_4.set1 32 13 (Value.slice q4 a4f.length c4) rfl (by simp); replace hF4_5 : Fm K (fun b => (fun b => noB b ∨ N3 b) b ∨ N4 b) w t p mb 19 cur [Value.int .i64 a1, Value.int .i64 a2, Value.int .u8 (a3k : Int), Value.string a3t, Value.int .u64 (a3b : Int), Value.int .u64 (a3l : Int), Value.int .i64 a3s, Value.slice q3 a3f.length c3, Value.int .u8 (a4k : Int), Value.string a4t, Value.int .u64 (a4b : Int), Value.int .u64 (a4l : Int), Value.int .i64 a4s, Value.slice q4 a4f.length c4, Value.bool xr, Value.int .i64 xb, Value.slice q0 xo.length c0] W4_5 s4 := hF4_5)
  all_goals exact key N4 q4 c4 _ ⟨⟨hF4_5, ((((((((Kept.refl _ _).drew.trans hKa4).trans (hK4_0.less (fun b hb => hb.elim Or.inl (fun h => Or.inr (Or.inl h))))).trans (hK4_1.less (fun b hb => hb.elim Or.inl (fun h => Or.inr (Or.inl h))))).trans (hK4_2.less (fun b hb => hb.elim Or.inl (fun h => Or.inr (Or.inl h))))).trans (hK4_3.less (fun b hb => hb.elim Or.inl (fun h => Or.inr (Or.inl h))))).trans (hK4_4.less (fun b hb => hb.elim Or.inl (fun h => Or.inr (Or.inl h))))).trans (hK4_5.less (fun b hb => hb.elim Or.inl (fun h => Or.inr (Or.inl h)))))⟩, (ListIs.mono mInt (fun _ h => h) (hK4_5.less (fun b hb => hb.elim (fun h => Or.inl (hDK b h)) (fun h => Or.inr (Or.inr h)))) (ListIs.mono mInt (fun _ h => h) (hK4_4.less (fun b hb => hb.elim (fun h => Or.inl (hDK b h)) (fun h => Or.inr (Or.inr h)))) (ListIs.mono mInt (fun _ h => h) (hK4_3.less (fun b hb => hb.elim (fun h => Or.inl (hDK b h)) (fun h => Or.inr (Or.inr h)))) (ListIs.mono mInt (fun _ h => h) (hK4_2.less (fun b hb => hb.elim (fun h => Or.inl (hDK b h)) (fun h => Or.inr (Or.inr h)))) (ListIs.mono mInt (fun _ h => h) (hK4_1.less (fun b hb => hb.elim (fun h => Or.inl (hDK b h)) (fun h => Or.inr (Or.inr h)))) (ListIs.mono mInt (fun _ h => h) (hK4_0.less (fun b hb => hb.elim (fun h => Or.inl (hDK b h)) (fun h => Or.inr (Or.inr h)))) hd4)))))), ok4⟩
 rintro N4 q4 c4 W4 ⟨⟨hF4b, hK4⟩, hd4, ok4⟩
 replace hd3 : ListIs rInt 1 8 (fun b => D b ∨ N3 b) W4 (.slice q3 a3f.length c3) a3f := ListIs.mono mInt (fun _ h => h) (hK4.less (fun b hb => hb.elim (fun h => Or.inl (hDK b h)) (fun h => Or.inr (Or.inr h)))) hd3
 clear C4 cw4 HF4 hK4 cc4_0 cc4_1 cc4_2 cc4_3 cc4_4 cc4_5
 obtain ⟨⟨a5, s5⟩, r5⟩ : ∃ q, flagP s4 xr = q := ⟨_, rfl⟩
 have g5 := grows_flag s4 xr
 rw [r5] at g5
 simp only at g5
 have C5 : Hid (Calls Tryz.prog 125 #[.agg #[.iface t (.pointer (some ⟨p, 0, none⟩))], .bool xr] W4.drew fun e w' => e = .returned (.bool a5) ∧ Fm K (fun b => (fun b => noB b ∨ N3 b) b ∨ N4 b) w t p mb 19 cur [Value.int .i64 a1, Value.int .i64 a2, Value.int .u8 (a3k : Int), Value.string a3t, Value.int .u64 (a3b : Int), Value.int .u64 (a3l : Int), Value.int .i64 a3s, Value.slice q3 a3f.length c3, Value.int .u8 (a4k : Int), Value.string a4t, Value.int .u64 (a4b : Int), Value.int .u64 (a4l : Int), Value.int .i64 a4s, Value.slice q4 a4f.length c4, Value.bool xr, Value.int .i64 xb, Value.slice q0 xo.length c0] w' s5 ∧ Kept (fun b => K b ∨ (fun b => (fun b => noB b ∨ N3 b) b ∨ N4 b) b) W4.drew w') := by
  refine hF4b.drew.call (R := fun e => e = .returned (.bool a5)) ?_
  have := flag_any _ t p s4 xr W4.drew hF4b.drew.port (by omega)
  rw [r5] at this
  exact this
 have cw5 : W4.drew.cell? ⟨w.heap.size, 0, none⟩ = _ := hF4b.drew.cell0
 have cc5_0 : W4.drew.cell? ⟨mb, 33, none⟩ = _ := hF4b.drew.cell1 (k := 33) (i := 14) rfl rfl
 have HF5 : Hid (Fm K (fun b => (fun b => noB b ∨ N3 b) b ∨ N4 b) w t p mb 19 cur [Value.int .i64 a1, Value.int .i64 a2, Value.int .u8 (a3k : Int), Value.string a3t, Value.int .u64 (a3b : Int), Value.int .u64 (a3l : Int), Value.int .i64 a3s, Value.slice q3 a3f.length c3, Value.int .u8 (a4k : Int), Value.string a4t, Value.int .u64 (a4b : Int), Value.int .u64 (a4l : Int), Value.int .i64 a4s, Value.slice q4 a4f.length c4, Value.bool xr, Value.int .i64 xb, Value.slice q0 xo.length c0] W4 s4) := hF4b
 clear hF4b
 go_wp2_with fail
 refine via (A := fun WX => Fm K (fun b => (fun b => noB b ∨ N3 b) b ∨ N4 b) w t p mb 19 cur [Value.int .i64 a1, Value.int .i64 a2, Value.int .u8 (a3k : Int), Value.string a3t, Value.int .u64 (a3b : Int), Value.int .u64 (a3l : Int), Value.int .i64 a3s, Value.slice q3 a3f.length c3, Value.int .u8 (a4k : Int), Value.string a4t, Value.int .u64 (a4b : Int), Value.int .u64 (a4l : Int), Value.int .i64 a4s, Value.slice q4 a4f.length c4, Value.bool a5, Value.int .i64 xb, Value.slice q0 xo.length c0] WX s5 ∧ Kept (fun b => K b ∨ (fun b => (fun b => noB b ∨ N3 b) b ∨ N4 b) b) W4 WX) (Q := ?Q5) (fun key => ?a5) ?b5
 case a5 =>
  go_region_with (go_at_call 125; refine C5.out.mono ?_; rintro e w5 ⟨rfl, hF5a, hKa5⟩; have x5_0 := hF5a.cell1 (k := 33) (i := 14) rfl rfl; have z5_0 := hF5a.fz1 33; obtain ⟨W5_0, hW5_0, hF5_0, hK5_0⟩ := hF5a.set1 33 14 (Value.bool a5) rfl (by simp); replace hF5_0 : Fm K (fun b => (fun b => noB b ∨ N3 b) b ∨ N4 b) w t p mb 19 cur [Value.int .i64 a1, Value.int .i64 a2, Value.int .u8 (a3k : Int), Value.string a3t, Value.int .u64 (a3b : Int), Value.int .u64 (a3l : Int), Value.int .i64 a3s, Value.slice q3 a3f.length c3, Value.int .u8 (a4k : Int), Value.string a4t, Value.int .u64 (a4b : Int), Value.int .u64 (a4l : Int), Value.int .i64 a4s, Value.slice q4 a4f.length c4, Value.bool a5, Value.int .i64 xb, Value.slice q0 xo.length c0] W5_0 s5 := hF5_0)
  all_goals exact key _ ⟨hF5_0, (((Kept.refl _ _).drew.trans hKa5).trans hK5_0)⟩
 rintro W5 ⟨hF5b, hK5⟩
 replace hd3 : ListIs rInt 1 8 (fun b => D b ∨ N3 b) W5 (.slice q3 a3f.length c3) a3f := ListIs.mono mInt (fun _ h => h) (hK5.less (fun b hb => hb.elim (fun h => Or.inl (hDK b h)) (fun h => Or.inr (Or.inl (Or.inr h))))) hd3
 replace hd4 : ListIs rInt 1 8 (fun b => D b ∨ N4 b) W5 (.slice q4 a4f.length c4) a4f := ListIs.mono mInt (fun _ h => h) (hK5.less (fun b hb => hb.elim (fun h => Or.inl (hDK b h)) (fun h => Or.inr (Or.inr h)))) hd4
 clear C5 cw5 HF5 hK5 cc5_0
 obtain ⟨⟨a6, s6⟩, r6⟩ : ∃ q, longP s5 xb = q := ⟨_, rfl⟩
 have g6 := grows_long s5 xb
 rw [r6] at g6
 simp only at g6
 have n6 : I64 a6 := by have := longP_in s5 xb (by assumption); rw [r6] at this; exact this
 have C6 : Hid (Calls Tryz.prog 120 #[.agg #[.iface t (.pointer (some ⟨p, 0, none⟩))], .int .i64 xb] W5.drew fun e w' => e = .returned (.int .i64 a6) ∧ Fm K (fun b => (fun b => noB b ∨ N3 b) b ∨ N4 b) w t p mb 19 cur [Value.int .i64 a1, Value.int .i64 a2, Value.int .u8 (a3k : Int), Value.string a3t, Value.int .u64 (a3b : Int), Value.int .u64 (a3l : Int), Value.int .i64 a3s, Value.slice q3 a3f.length c3, Value.int .u8 (a4k : Int), Value.string a4t, Value.int .u64 (a4b : Int), Value.int .u64 (a4l : Int), Value.int .i64 a4s, Value.slice q4 a4f.length c4, Value.bool a5, Value.int .i64 xb, Value.slice q0 xo.length c0] w' s6 ∧ Kept (fun b => K b ∨ (fun b => (fun b => noB b ∨ N3 b) b ∨ N4 b) b) W5.drew w') := by
  refine hF5b.drew.call (R := fun e => e = .returned (.int .i64 a6)) ?_
  have := whole_any _ t p s5 xb W5.drew hF5b.drew.port (by first | assumption | omega) (by omega)
  rw [r6] at this
  exact this
 have cw6 : W5.drew.cell? ⟨w.heap.size, 0, none⟩ = _ := hF5b.drew.cell0
 have cc6_0 : W5.drew.cell? ⟨mb, 34, none⟩ = _ := hF5b.drew.cell1 (k := 34) (i := 15) rfl rfl
 have HF6 : Hid (Fm K (fun b => (fun b => noB b ∨ N3 b) b ∨ N4 b) w t p mb 19 cur [Value.int .i64 a1, Value.int .i64 a2, Value.int .u8 (a3k : Int), Value.string a3t, Value.int .u64 (a3b : Int), Value.int .u64 (a3l : Int), Value.int .i64 a3s, Value.slice q3 a3f.length c3, Value.int .u8 (a4k : Int), Value.string a4t, Value.int .u64 (a4b : Int), Value.int .u64 (a4l : Int), Value.int .i64 a4s, Value.slice q4 a4f.length c4, Value.bool a5, Value.int .i64 xb, Value.slice q0 xo.length c0] W5 s5) := hF5b
 clear hF5b
 go_wp2_with fail
 refine via (A := fun WX => Fm K (fun b => (fun b => noB b ∨ N3 b) b ∨ N4 b) w t p mb 19 cur [Value.int .i64 a1, Value.int .i64 a2, Value.int .u8 (a3k : Int), Value.string a3t, Value.int .u64 (a3b : Int), Value.int .u64 (a3l : Int), Value.int .i64 a3s, Value.slice q3 a3f.length c3, Value.int .u8 (a4k : Int), Value.string a4t, Value.int .u64 (a4b : Int), Value.int .u64 (a4l : Int), Value.int .i64 a4s, Value.slice q4 a4f.length c4, Value.bool a5, Value.int .i64 a6, Value.slice q0 xo.length c0] WX s6 ∧ Kept (fun b => K b ∨ (fun b => (fun b => noB b ∨ N3 b) b ∨ N4 b) b) W5 WX) (Q := ?Q6) (fun key => ?a6) ?b6
 case a6 =>
  go_region_with (go_at_call 120; refine C6.out.mono ?_; rintro e w6 ⟨rfl, hF6a, hKa6⟩; have x6_0 := hF6a.cell1 (k := 34) (i := 15) rfl rfl; have z6_0 := hF6a.fz1 34; obtain ⟨W6_0, hW6_0, hF6_0, hK6_0⟩ := hF6a.set1 34 15 (Value.int .i64 a6) rfl (by simp); replace hF6_0 : Fm K (fun b => (fun b => noB b ∨ N3 b) b ∨ N4 b) w t p mb 19 cur [Value.int .i64 a1, Value.int .i64 a2, Value.int .u8 (a3k : Int), Value.string a3t, Value.int .u64 (a3b : Int), Value.int .u64 (a3l : Int), Value.int .i64 a3s, Value.slice q3 a3f.length c3, Value.int .u8 (a4k : Int), Value.string a4t, Value.int .u64 (a4b : Int), Value.int .u64 (a4l : Int), Value.int .i64 a4s, Value.slice q4 a4f.length c4, Value.bool a5, Value.int .i64 a6, Value.slice q0 xo.length c0] W6_0 s6 := hF6_0)
  all_goals exact key _ ⟨hF6_0, (((Kept.refl _ _).drew.trans hKa6).trans hK6_0)⟩
 rintro W6 ⟨hF6b, hK6⟩
 replace hd3 : ListIs rInt 1 8 (fun b => D b ∨ N3 b) W6 (.slice q3 a3f.length c3) a3f := ListIs.mono mInt (fun _ h => h) (hK6.less (fun b hb => hb.elim (fun h => Or.inl (hDK b h)) (fun h => Or.inr (Or.inl (Or.inr h))))) hd3
 replace hd4 : ListIs rInt 1 8 (fun b => D b ∨ N4 b) W6 (.slice q4 a4f.length c4) a4f := ListIs.mono mInt (fun _ h => h) (hK6.less (fun b hb => hb.elim (fun h => Or.inl (hDK b h)) (fun h => Or.inr (Or.inr h)))) hd4
 clear C6 cw6 HF6 hK6 cc6_0
 obtain ⟨⟨a7, s7⟩, r7⟩ : ∃ q, intsP s6 xo = q := ⟨_, rfl⟩
 have g7 := grows_ints s6 xo
 rw [r7] at g7
 simp only at g7
 have hli7 : ListIs rInt 1 8 D W6.drew (Value.slice q0 xo.length c0) xo := hv.mono mInt (fun _ h => h) (hF6b.drew.kept.less hDK)
 have C7 : Hid (Calls Tryz.prog 122 #[.agg #[.iface t (.pointer (some ⟨p, 0, none⟩))], Value.slice q0 xo.length c0] W6.drew fun e w' => ∃ N7 : Nat → Prop, (∃ q c, e = .returned (.slice q a7.length c) ∧ ListIs rInt 1 8 (fun b => D b ∨ N7 b) w' (.slice q a7.length c) a7) ∧ Fm K (fun b => (fun b => (fun b => noB b ∨ N3 b) b ∨ N4 b) b ∨ N7 b) w t p mb 19 cur [Value.int .i64 a1, Value.int .i64 a2, Value.int .u8 (a3k : Int), Value.string a3t, Value.int .u64 (a3b : Int), Value.int .u64 (a3l : Int), Value.int .i64 a3s, Value.slice q3 a3f.length c3, Value.int .u8 (a4k : Int), Value.string a4t, Value.int .u64 (a4b : Int), Value.int .u64 (a4l : Int), Value.int .i64 a4s, Value.slice q4 a4f.length c4, Value.bool a5, Value.int .i64 a6, Value.slice q0 xo.length c0] w' s7 ∧ Kept (fun b => K b ∨ (fun b => (fun b => noB b ∨ N3 b) b ∨ N4 b) b) W6.drew w') := by
  refine hF6b.drew.callN (R := fun N e w' => ∃ q c, e = .returned (.slice q a7.length c) ∧ ListIs rInt 1 8 (fun b => D b ∨ N b) w' (.slice q a7.length c) a7) ?_
  have := wholes_any t p _ D W6.drew s6 (Value.slice q0 xo.length c0) xo (htb.mono (fun b hb => Or.inl hb) hF6b.drew.kept) hF6b.drew.port (fun b hb => .inl (hDK b hb)) hli7 (by omega)
  refine this.mono ?_
  rintro e w' ⟨N, v', rfl, h1, h2, h3, h4⟩
  replace h2 : PortIs _ w' t p (intsP s6 xo).2 := h2
  replace h3 : ListIs rInt 1 8 (fun b => D b ∨ N b) w' v' (intsP s6 xo).1 := h3
  rw [r7] at h2 h3
  obtain ⟨q, c, rfl, h5⟩ := h3
  exact ⟨N, ⟨q, c, rfl, q, c, rfl, h5⟩, h1, h2, h4⟩
 have cw7 : W6.drew.cell? ⟨w.heap.size, 0, none⟩ = _ := hF6b.drew.cell0
 have cc7_0 : W6.drew.cell? ⟨mb, 35, none⟩ = _ := hF6b.drew.cell1 (k := 35) (i := 16) rfl rfl
 have HF7 : Hid (Fm K (fun b => (fun b => noB b ∨ N3 b) b ∨ N4 b) w t p mb 19 cur [Value.int .i64 a1, Value.int .i64 a2, Value.int .u8 (a3k : Int), Value.string a3t, Value.int .u64 (a3b : Int), Value.int .u64 (a3l : Int), Value.int .i64 a3s, Value.slice q3 a3f.length c3, Value.int .u8 (a4k : Int), Value.string a4t, Value.int .u64 (a4b : Int), Value.int .u64 (a4l : Int), Value.int .i64 a4s, Value.slice q4 a4f.length c4, Value.bool a5, Value.int .i64 a6, Value.slice q0 xo.length c0] W6 s6) := hF6b
 clear hF6b
 go_wp2_with fail
 refine viaN (A := fun N7 q c WX => (Fm K (fun b => (fun b => (fun b => noB b ∨ N3 b) b ∨ N4 b) b ∨ N7 b) w t p mb 19 cur [Value.int .i64 a1, Value.int .i64 a2, Value.int .u8 (a3k : Int), Value.string a3t, Value.int .u64 (a3b : Int), Value.int .u64 (a3l : Int), Value.int .i64 a3s, Value.slice q3 a3f.length c3, Value.int .u8 (a4k : Int), Value.string a4t, Value.int .u64 (a4b : Int), Value.int .u64 (a4l : Int), Value.int .i64 a4s, Value.slice q4 a4f.length c4, Value.bool a5, Value.int .i64 a6, Value.slice q a7.length c] WX s7 ∧ Kept (fun b => K b ∨ (fun b => (fun b => noB b ∨ N3 b) b ∨ N4 b) b) W6 WX) ∧ ListIs rInt 1 8 (fun b => D b ∨ N7 b) WX (.slice q a7.length c) a7) (Q := ?Q7) (fun key => ?a7) ?b7
 case a7 =>
  go_region_with (go_at_call 122; refine C7.out.mono ?_; rintro e w7 ⟨N7, ⟨q7, c7, rfl, hd7⟩, hF7a, hKa7⟩; have x7_0 := hF7a.cell1 (k := 35) (i := 16) rfl rfl; have z7_0 := hF7a.fz1 35; obtain ⟨W7_0, hW7_0, hF7_0, hK7_0⟩ := hF7a.set1 35 16 (Value.slice q7 a7.length c7) rfl (by simp); replace hF7_0 : Fm K (fun b => (fun b => (fun b => noB b ∨ N3 b) b ∨ N4 b) b ∨ N7 b) w t p mb 19 cur [Value.int .i64 a1, Value.int .i64 a2, Value.int .u8 (a3k : Int), Value.string a3t, Value.int .u64 (a3b : Int), Value.int .u64 (a3l : Int), Value.int .i64 a3s, Value.slice q3 a3f.length c3, Value.int .u8 (a4k : Int), Value.string a4t, Value.int .u64 (a4b : Int), Value.int .u64 (a4l : Int), Value.int .i64 a4s, Value.slice q4 a4f.length c4, Value.bool a5, Value.int .i64 a6, Value.slice q7 a7.length c7] W7_0 s7 := hF7_0)
  all_goals exact key N7 q7 c7 _ ⟨⟨hF7_0, (((Kept.refl _ _).drew.trans hKa7).trans (hK7_0.less (fun b hb => hb.elim Or.inl (fun h => Or.inr (Or.inl h)))))⟩, (ListIs.mono mInt (fun _ h => h) (hK7_0.less (fun b hb => hb.elim (fun h => Or.inl (hDK b h)) (fun h => Or.inr (Or.inr h)))) hd7)⟩
 rintro N7 q7 c7 W7 ⟨⟨hF7b, hK7⟩, hd7⟩
 replace hd3 : ListIs rInt 1 8 (fun b => D b ∨ N3 b) W7 (.slice q3 a3f.length c3) a3f := ListIs.mono mInt (fun _ h => h) (hK7.less (fun b hb => hb.elim (fun h => Or.inl (hDK b h)) (fun h => Or.inr (Or.inl (Or.inr h))))) hd3
 replace hd4 : ListIs rInt 1 8 (fun b => D b ∨ N4 b) W7 (.slice q4 a4f.length c4) a4f := ListIs.mono mInt (fun _ h => h) (hK7.less (fun b hb => hb.elim (fun h => Or.inl (hDK b h)) (fun h => Or.inr (Or.inr h)))) hd4
 clear C7 cw7 HF7 hK7 cc7_0
 have HG : Hid (Fm K (fun b => (fun b => (fun b => noB b ∨ N3 b) b ∨ N4 b) b ∨ N7 b) w t p mb 19 cur [Value.int .i64 a1, Value.int .i64 a2, Value.int .u8 (a3k : Int), Value.string a3t, Value.int .u64 (a3b : Int), Value.int .u64 (a3l : Int), Value.int .i64 a3s, Value.slice q3 a3f.length c3, Value.int .u8 (a4k : Int), Value.string a4t, Value.int .u64 (a4b : Int), Value.int .u64 (a4l : Int), Value.int .i64 a4s, Value.slice q4 a4f.length c4, Value.bool a5, Value.int .i64 a6, Value.slice q7 a7.length c7] W7 s7) := hF7b
 have HE : Hid (frgP st ⟨xi, xd, ⟨yk, yt, ⟨yb, yl⟩, ys, yf⟩, ⟨zk, zt, ⟨zb, zl⟩, zs, zf⟩, xr, xb, xo⟩ = (⟨a1, a2, ⟨a3k, a3t, ⟨a3b, a3l⟩, a3s, a3f⟩, ⟨a4k, a4t, ⟨a4b, a4l⟩, a4s, a4f⟩, a5, a6, a7⟩, s7)) := by show _ = _; simp only [frgP, r1, r2, r3, r4, r5, r6, r7]
 have Hhd3 : Hid (ListIs rInt 1 8 (fun b => D b ∨ N3 b) W7 (.slice q3 a3f.length c3) a3f) := hd3
 have Hhd4 : Hid (ListIs rInt 1 8 (fun b => D b ∨ N4 b) W7 (.slice q4 a4f.length c4) a4f) := hd4
 have Hhd7 : Hid (ListIs rInt 1 8 (fun b => D b ∨ N7 b) W7 (.slice q7 a7.length c7) a7) := hd7
 clear hF7b hd3 hd4 hd7
 go_wp2_with fail
 go_end0
 obtain ⟨e1, ⟨cur', e2, e3⟩, e4, e5⟩ := HG.out.fin
 first | refine ⟨rfl, (fun b => (fun b => (fun b => noB b ∨ N3 b) b ∨ N4 b) b ∨ N7 b), cur', [Value.int .i64 a1, Value.int .i64 a2, Value.int .u8 (a3k : Int), Value.string a3t, Value.int .u64 (a3b : Int), Value.int .u64 (a3l : Int), Value.int .i64 a3s, Value.slice q3 a3f.length c3, Value.int .u8 (a4k : Int), Value.string a4t, Value.int .u64 (a4b : Int), Value.int .u64 (a4l : Int), Value.int .i64 a4s, Value.slice q4 a4f.length c4, Value.bool a5, Value.int .i64 a6, Value.slice q7 a7.length c7], e1, e2, rfl, e3, ?_, ?_, e5⟩ | refine ⟨rfl, (fun b => (fun b => (fun b => noB b ∨ N3 b) b ∨ N4 b) b ∨ N7 b), e1, cur', e2, [Value.int .i64 a1, Value.int .i64 a2, Value.int .u8 (a3k : Int), Value.string a3t, Value.int .u64 (a3b : Int), Value.int .u64 (a3l : Int), Value.int .i64 a3s, Value.slice q3 a3f.length c3, Value.int .u8 (a4k : Int), Value.string a4t, Value.int .u64 (a4b : Int), Value.int .u64 (a4l : Int), Value.int .i64 a4s, Value.slice q4 a4f.length c4, Value.bool a5, Value.int .i64 a6, Value.slice q7 a7.length c7], rfl, e3, ?_, ?_, e5⟩
 ·rw [HE.out]; exact ⟨[Value.int .u8 (a3k : Int), Value.string a3t, Value.int .u64 (a3b : Int), Value.int .u64 (a3l : Int), Value.int .i64 a3s, Value.slice q3 a3f.length c3], [Value.int .u8 (a4k : Int), Value.string a4t, Value.int .u64 (a4b : Int), Value.int .u64 (a4l : Int), Value.int .i64 a4s, Value.slice q4 a4f.length c4], _, rfl, n1, n2, ⟨_, rfl, ok3.1, ok3.2.1, ok3.2.2.1, ok3.2.2.2, ListIs.mono mInt (fun b hb => hb.elim Or.inl (fun h => Or.inr (Or.inl (Or.inl (Or.inr h))))) (Kept.refl _ _) Hhd3.out⟩, ⟨_, rfl, ok4.1, ok4.2.1, ok4.2.2.1, ok4.2.2.2, ListIs.mono mInt (fun b hb => hb.elim Or.inl (fun h => Or.inr (Or.inl (Or.inr h)))) (Kept.refl _ _) Hhd4.out⟩, n6, ListIs.mono mInt (fun b hb => hb.elim Or.inl (fun h => Or.inr (Or.inr h))) (Kept.refl _ _) Hhd7.out⟩
 ·rw [HE.out]; exact e4
end Go.Proofs.YtajomnfeicfdlaaGreatDoor
