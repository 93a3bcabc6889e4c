/- What token is an expression by itself. -/
import Derived.Test.YtfifphfihdhlaaaGreatDoorQd
set_option maxRecDepth 100000
set_option maxHeartbeats 32000000
namespace Go.Proofs.YtfifphfihdhlaaaGreatDoor
open Tryz
open Go.Shelf Go.RowKit Go.Lib Go.Sort
set_option linter.unusedVariables false
set_option linter.unusedSimpArgs false
attribute [local go_sem ↓] Go.wp_at_zero Go.wp_at_succ
theorem sz_tok : (prog.info? 160).map (·.size) = some 4 := by kernel_rfl
theorem sz_step : (prog.info? 53).map (·.size) = some 3 := by kernel_rfl
def Stp.v (x : Stp) : Value := .agg #[.int .u8 (x.k : Int), .string ⟨x.t.toArray⟩, .int .i64 x.n]
def leafP (t : Tok) : Stp := if t.k = 4 then ⟨4, [], t.n⟩ else if t.k = 5 then ⟨5, t.t, 0⟩ else if colP t then ⟨6, t.t, 0⟩ else if t.k = 3 ∧ isConstP t.t = true then ⟨stepOfP t.t, [], 0⟩ else ⟨0, [], 0⟩
def lefP (t : Tok) : Bool := decide ((leafP t).k ≠ 0)
theorem leaf_any (x : Tok) (w : World) (hk : okT x) (hG : GW w) : Calls prog 214 #[x.v] w fun e w' => e = .returned (leafP x).v ∧ Bl w w' := by
 obtain ⟨s, hse⟩ := bya x.t
 have hst : s.data.toList = x.t := by rw [← hse]
 have hv : x.v = .agg #[.int .u8 x.k, .string s, .int .i64 x.n, .int .i64 x.a] := by rw [← hse]; rfl
 obtain ⟨W0, hW0, hb0, hs0, g0, g1⟩ := two_boxes2 w #[.int .u8 x.k, .string s, .int .i64 x.n, .int .i64 x.a] #[.int .u8 0, .string ⟨#[]⟩, .int .i64 0] 160 53
 have c0 := cell_of_row (k := 0) (v := .int .u8 x.k) g0 rfl
 have c1 := cell_of_row (k := 1) (v := .string s) g0 rfl
 have c2 := cell_of_row (k := 2) (v := .int .i64 x.n) g0 rfl
 have HL : Hid (∀ V, Bl W0 V → V.cell? ⟨w.heap.size, 0, none⟩ = some (.int .u8 x.k) ∧ V.cell? ⟨w.heap.size, 1, none⟩ = some (.string s) ∧ Bl w V ∧ V.heap[w.heap.size + 1]? = some (.cells #[.int .u8 0, .string ⟨#[]⟩, .int .i64 0] 53 (0, 0)) ∧ V.rangeAt w.heap.size 0 [.int .u8 x.k, .string s, .int .i64 x.n, .int .i64 x.a]) := fun V hb => ⟨(hb.cell (p := ⟨w.heap.size, 0, none⟩) (by show w.heap.size < _; omega)).trans c0, (hb.cell (p := ⟨w.heap.size, 1, none⟩) (by show w.heap.size < _; omega)).trans c1, hb0.trans (hb.mono hb0.size), (hb.block _ (by omega)).trans g1, rgz ((hb.block _ (by omega)).trans g0)⟩
 have HG0 : Hid (GW W0) := hG.below hb0
 have HSE : Hid ((⟨x.t.toArray⟩ : ByteArray) = s) := hse
 have HST : Hid (s.data.toList = x.t) := hst
 have C1 : Hid (Calls prog 189 #[.agg #[.int .u8 x.k, .string s, .int .i64 x.n, .int .i64 x.a]] W0 fun e w' => e = .returned (.bool (colP x)) ∧ Bl W0 w') := by have := isColT_any x W0 hk HG0.out; rw [hv] at this; exact this
 have C2 : Hid (∀ V, Bl W0 V → Calls prog 101 #[.string s] V fun e w' => e = .returned (.bool (isConstP x.t)) ∧ Bl V w') := fun V hb => by have := isConst_any s V (HG0.out.below hb).1; rw [hst] at this; exact this
 have C3 : Hid (∀ V, Bl W0 V → Calls prog 135 #[.string s] V fun e w' => e = .returned (.int .u8 ((stepOfP x.t : Nat) : Int)) ∧ Bl V w') := fun V hb => by have := stepOf_any s V (HG0.out.below hb).1; rw [hst] at this; exact this
 have hn21 := stepOfP_le x.t
 rw [hv]
 clear hse hst hv hk hG
 by_cases h4 : x.k = 4
 · have y4 : (x.k == 4) = true := by simp [h4]
   obtain ⟨hth, X, hX, hld, hsX, hkX⟩ := put_row W0 (w.heap.size + 1) _ 53 g1 [.int .u8 4, .string ⟨#[]⟩, .int .i64 x.n] rfl underlying53 rfl sz_step
   have HTH : Hid (W0.there (w.heap.size + 1) 0 3) := hth
   have HWX : Hid (W0.setCells (w.heap.size + 1) 0 (#[.int .u8 4, .string ⟨#[]⟩, .int .i64 x.n] : Array Value).toList = X) := hX
   have HLD : Hid ((loadVar 53 ⟨w.heap.size + 1, 0, none⟩).run prog X = .ok (.agg #[.int .u8 4, .string ⟨#[]⟩, .int .i64 x.n]) X) := hld
   have HFX : Hid (Bl w X) := by
    have hb := hb0
    exact ⟨hkX.os.trans hb.os, hkX.tape.trans hb.tape, hkX.output.trans hb.output, by have := hb.size; omega, fun b h => (hkX.block b (by show b ≠ _; omega)).trans (hb.block b h)⟩
   have HE : Hid ((leafP x).v = .agg #[.int .u8 4, .string ⟨#[]⟩, .int .i64 x.n]) := by
    show _ = _
    unfold leafP; rw [if_pos h4]; rfl
   clear hth hX hld hsX hkX
   clear h4 hb0 hs0 g0 g1 HL HG0 HST HSE C1 C2 C3
   go_enter func214, ntmps214
   go_wp2_with (refine wpList_store_mid rfl 53 _ _ rfl (w.heap.size + 1) 0 #[.int .u8 4, .string ⟨#[]⟩, .int .i64 x.n] rfl rfl HTH.out sz_step (by simp [Value.oneCell']) ?_; rw [HWX.out])
   refine bodyPost_ret (v := .agg #[.int .u8 4, .string ⟨#[]⟩, .int .i64 x.n]) (by simp only [results, results214]; simp [asAddr, Act.put, HLD.out]) rfl ?_
   exact ⟨by rw [HE.out], HFX.out⟩
 · have y4 : (x.k == 4) = false := bfn h4
   by_cases h5 : x.k = 5
   · have y5 : (x.k == 5) = true := by simp [h5]
     obtain ⟨hth, X, hX, hld, hsX, hkX⟩ := put_row W0 (w.heap.size + 1) _ 53 g1 [.int .u8 5, .string s, .int .i64 0] rfl underlying53 rfl sz_step
     have HTH : Hid (W0.there (w.heap.size + 1) 0 3) := hth
     have HWX : Hid (W0.setCells (w.heap.size + 1) 0 (#[.int .u8 5, .string s, .int .i64 0] : Array Value).toList = X) := hX
     have HLD : Hid ((loadVar 53 ⟨w.heap.size + 1, 0, none⟩).run prog X = .ok (.agg #[.int .u8 5, .string s, .int .i64 0]) X) := hld
     have HFX : Hid (Bl w X) := by
      have hb := hb0
      exact ⟨hkX.os.trans hb.os, hkX.tape.trans hb.tape, hkX.output.trans hb.output, by have := hb.size; omega, fun b h => (hkX.block b (by show b ≠ _; omega)).trans (hb.block b h)⟩
     have HE : Hid ((leafP x).v = .agg #[.int .u8 5, .string s, .int .i64 0]) := by
      show _ = _
      unfold leafP; rw [if_neg h4, if_pos h5, ← HSE.out]; rfl
     clear hth hX hld hsX hkX
     clear h4 h5 hb0 hs0 g0 g1 HL HG0 HST HSE C1 C2 C3
     go_enter func214, ntmps214
     go_wp2_with (refine wpList_store_mid rfl 53 _ _ rfl (w.heap.size + 1) 0 #[.int .u8 5, .string s, .int .i64 0] rfl rfl HTH.out sz_step (by simp [Value.oneCell']) ?_; rw [HWX.out])
     refine bodyPost_ret (v := .agg #[.int .u8 5, .string s, .int .i64 0]) (by simp only [results, results214]; simp [asAddr, Act.put, HLD.out]) rfl ?_
     exact ⟨by rw [HE.out], HFX.out⟩
   · have y5 : (x.k == 5) = false := bfn h5
     obtain ⟨v1, v2, v3, v4, v5⟩ := HL.out W0 (Below.refl _ _)
     have HR0 : Hid (W0.rangeAt w.heap.size 0 [.int .u8 x.k, .string s, .int .i64 x.n, .int .i64 x.a]) := v5
     obtain ⟨Q, hQ⟩ := gen (colP x)
     have HQ : Hid (colP x = Q) := hQ
     rw [hQ] at C1
     clear hQ v1 v2 v3 v4 v5 hb0 hs0 g0 g1
     go_enter func214, ntmps214
     go_wp2_with (refine wpList_load_mid rfl 160 _ rfl w.heap.size 0 rfl _ _ HR0.out underlying160 rfl sz_tok ?_)
     refine C1.out.mono ?_
     rintro e w1 ⟨rfl, hb1⟩
     obtain ⟨d0, d1, hbw, hg, _⟩ := HL.out w1 hb1
     clear C1 c0 c1 c2 HR0 hW0
     cases Q with
     | true =>
      obtain ⟨hth, X, hX, hld, hsX, hkX⟩ := put_row w1 (w.heap.size + 1) _ 53 hg [.int .u8 6, .string s, .int .i64 0] rfl underlying53 rfl sz_step
      have HTH : Hid (w1.there (w.heap.size + 1) 0 3) := hth
      have HWX : Hid (w1.setCells (w.heap.size + 1) 0 (#[.int .u8 6, .string s, .int .i64 0] : Array Value).toList = X) := hX
      have HLD : Hid ((loadVar 53 ⟨w.heap.size + 1, 0, none⟩).run prog X = .ok (.agg #[.int .u8 6, .string s, .int .i64 0]) X) := hld
      have HFX : Hid (Bl w X) := by
       have hb := hbw
       exact ⟨hkX.os.trans hb.os, hkX.tape.trans hb.tape, hkX.output.trans hb.output, by have := hb.size; omega, fun b h => (hkX.block b (by show b ≠ _; omega)).trans (hb.block b h)⟩
      have HE : Hid ((leafP x).v = .agg #[.int .u8 6, .string s, .int .i64 0]) := by
       show _ = _
       unfold leafP; rw [if_neg h4, if_neg h5, if_pos HQ.out, ← HSE.out]; rfl
      clear hth hX hld hsX hkX
      clear h4 h5 hb1 hbw hg HL HG0 HST HSE C2 C3 HQ
      go_wp2_with (refine wpList_store_mid rfl 53 _ _ rfl (w.heap.size + 1) 0 #[.int .u8 6, .string s, .int .i64 0] rfl rfl HTH.out sz_step (by simp [Value.oneCell']) ?_; rw [HWX.out])
      refine bodyPost_ret (v := .agg #[.int .u8 6, .string s, .int .i64 0]) (by simp only [results, results214]; simp [asAddr, Act.put, HLD.out]) rfl ?_
      exact ⟨by rw [HE.out], HFX.out⟩
     | false =>
      by_cases h3 : x.k = 3
      · have y3 : (x.k == 3) = true := by simp [h3]
        obtain ⟨D, hD⟩ := gen (isConstP x.t)
        have HD : Hid (isConstP x.t = D) := hD
        have CC2 := hid (C2.out w1 hb1)
        rw [hD] at CC2
        have HB1 := hid hb1
        clear hD C2 hb1 hbw hg
        go_wp2_with fail
        refine CC2.out.mono ?_
        rintro e w2 ⟨rfl, hb2⟩
        have hb2' : Bl W0 w2 := HB1.out.trans (hb2.mono HB1.out.size)
        clear CC2 d0 d1
        obtain ⟨d0, d1, hbw, hg, _⟩ := HL.out w2 hb2'
        cases D with
        | true =>
         have CC3 := hid (C3.out w2 hb2')
         obtain ⟨N, hN⟩ := gen (stepOfP x.t)
         have HN : Hid (stepOfP x.t = N) := hN
         rw [hN] at CC3 hn21
         have HB2 := hid hb2'
         clear C3 hN hb2 hb2' hbw hg
         go_wp2_with fail
         refine CC3.out.mono ?_
         rintro e w3 ⟨rfl, hb3⟩
         obtain ⟨_, _, hbw, hg, _⟩ := HL.out w3 (HB2.out.trans (hb3.mono HB2.out.size))
         obtain ⟨hth, X, hX, hld, hsX, hkX⟩ := put_row w3 (w.heap.size + 1) _ 53 hg [.int .u8 (N : Int), .string ⟨#[]⟩, .int .i64 0] rfl underlying53 rfl sz_step
         have HTH : Hid (w3.there (w.heap.size + 1) 0 3) := hth
         have HWX : Hid (w3.setCells (w.heap.size + 1) 0 (#[.int .u8 (N : Int), .string ⟨#[]⟩, .int .i64 0] : Array Value).toList = X) := hX
         have HLD : Hid ((loadVar 53 ⟨w.heap.size + 1, 0, none⟩).run prog X = .ok (.agg #[.int .u8 (N : Int), .string ⟨#[]⟩, .int .i64 0]) X) := hld
         have HFX : Hid (Bl w X) := by
          have hb := hbw
          exact ⟨hkX.os.trans hb.os, hkX.tape.trans hb.tape, hkX.output.trans hb.output, by have := hb.size; omega, fun b h => (hkX.block b (by show b ≠ _; omega)).trans (hb.block b h)⟩
         have HE : Hid ((leafP x).v = .agg #[.int .u8 (N : Int), .string ⟨#[]⟩, .int .i64 0]) := by
          show _ = _
          unfold leafP; rw [if_neg h4, if_neg h5, if_neg (by rw [HQ.out]; simp), if_pos ⟨h3, HD.out⟩, HN.out]; rfl
         clear hth hX hld hsX hkX
         clear h4 h5 h3 hb3 hbw hg HL HG0 HST HSE CC3 HQ HD HN HB1 HB2
         go_wp2_with (refine wpList_store_mid rfl 53 _ _ rfl (w.heap.size + 1) 0 #[.int .u8 (N : Int), .string ⟨#[]⟩, .int .i64 0] rfl rfl HTH.out sz_step (by simp [Value.oneCell']) ?_; rw [HWX.out])
         refine bodyPost_ret (v := .agg #[.int .u8 (N : Int), .string ⟨#[]⟩, .int .i64 0]) (by simp only [results, results214]; simp [asAddr, Act.put, HLD.out]) rfl ?_
         exact ⟨by rw [HE.out], HFX.out⟩
        | false =>
         obtain ⟨hth, X, hX, hld, hsX, hkX⟩ := put_row w2 (w.heap.size + 1) _ 53 hg [.int .u8 0, .string ⟨#[]⟩, .int .i64 0] rfl underlying53 rfl sz_step
         have HTH : Hid (w2.there (w.heap.size + 1) 0 3) := hth
         have HWX : Hid (w2.setCells (w.heap.size + 1) 0 (#[.int .u8 0, .string ⟨#[]⟩, .int .i64 0] : Array Value).toList = X) := hX
         have HLD : Hid ((loadVar 53 ⟨w.heap.size + 1, 0, none⟩).run prog X = .ok (.agg #[.int .u8 0, .string ⟨#[]⟩, .int .i64 0]) X) := hld
         have HFX : Hid (Bl w X) := by
          have hb := hbw
          exact ⟨hkX.os.trans hb.os, hkX.tape.trans hb.tape, hkX.output.trans hb.output, by have := hb.size; omega, fun b h => (hkX.block b (by show b ≠ _; omega)).trans (hb.block b h)⟩
         have HE : Hid ((leafP x).v = .agg #[.int .u8 0, .string ⟨#[]⟩, .int .i64 0]) := by
          show _ = _
          unfold leafP; rw [if_neg h4, if_neg h5, if_neg (by rw [HQ.out]; simp), if_neg (by rw [HD.out]; simp)]; rfl
         clear hth hX hld hsX hkX
         clear h4 h5 h3 hb2 hb2' hbw hg HL HG0 HST HSE C3 HQ HD HB1
         go_wp2_with (refine wpList_store_mid rfl 53 _ _ rfl (w.heap.size + 1) 0 #[.int .u8 0, .string ⟨#[]⟩, .int .i64 0] rfl rfl HTH.out sz_step (by simp [Value.oneCell']) ?_; rw [HWX.out])
         refine bodyPost_ret (v := .agg #[.int .u8 0, .string ⟨#[]⟩, .int .i64 0]) (by simp only [results, results214]; simp [asAddr, Act.put, HLD.out]) rfl ?_
         exact ⟨by rw [HE.out], HFX.out⟩
      · have y3 : (x.k == 3) = false := bfn h3
        obtain ⟨hth, X, hX, hld, hsX, hkX⟩ := put_row w1 (w.heap.size + 1) _ 53 hg [.int .u8 0, .string ⟨#[]⟩, .int .i64 0] rfl underlying53 rfl sz_step
        have HTH : Hid (w1.there (w.heap.size + 1) 0 3) := hth
        have HWX : Hid (w1.setCells (w.heap.size + 1) 0 (#[.int .u8 0, .string ⟨#[]⟩, .int .i64 0] : Array Value).toList = X) := hX
        have HLD : Hid ((loadVar 53 ⟨w.heap.size + 1, 0, none⟩).run prog X = .ok (.agg #[.int .u8 0, .string ⟨#[]⟩, .int .i64 0]) X) := hld
        have HFX : Hid (Bl w X) := by
         have hb := hbw
         exact ⟨hkX.os.trans hb.os, hkX.tape.trans hb.tape, hkX.output.trans hb.output, by have := hb.size; omega, fun b h => (hkX.block b (by show b ≠ _; omega)).trans (hb.block b h)⟩
        have HE : Hid ((leafP x).v = .agg #[.int .u8 0, .string ⟨#[]⟩, .int .i64 0]) := by
         show _ = _
         unfold leafP; rw [if_neg h4, if_neg h5, if_neg (by rw [HQ.out]; simp), if_neg (fun h => h3 h.1)]; rfl
        clear hth hX hld hsX hkX
        clear h4 h5 h3 hb1 hbw hg HL HG0 HST HSE C2 C3 HQ
        go_wp2_with (refine wpList_store_mid rfl 53 _ _ rfl (w.heap.size + 1) 0 #[.int .u8 0, .string ⟨#[]⟩, .int .i64 0] rfl rfl HTH.out sz_step (by simp [Value.oneCell']) ?_; rw [HWX.out])
        refine bodyPost_ret (v := .agg #[.int .u8 0, .string ⟨#[]⟩, .int .i64 0]) (by simp only [results, results214]; simp [asAddr, Act.put, HLD.out]) rfl ?_
        exact ⟨by rw [HE.out], HFX.out⟩
theorem field_of {t i o e : Nat} (hu : prog.underlying t = some (.struct (prog.fieldsOf t))) (h1 : (prog.fieldsOf t)[i]?.map (fun f => (f.type, f.offset)) = some (e, o)) (ha : ∀ w, (isAgg e).run prog w = .ok false w) (cl : Array Value) (u : Value) (hk : cl[o]? = some u) (w : World) : (Instr.field t (.agg cl) i).run prog w = .ok u w := by
 obtain ⟨f, hf, hf1⟩ : ∃ f, (prog.fieldsOf t)[i]? = some f ∧ (f.type, f.offset) = (e, o) := by
  cases hh : (prog.fieldsOf t)[i]? with
  | none => rw [hh] at h1; cases h1
  | some f => rw [hh] at h1; exact ⟨f, rfl, Option.some.inj h1⟩
 obtain ⟨ht, ho⟩ := Prod.mk.inj hf1
 simp [Instr.field, run_underlying hu, hf, part, ht, ho, ha, asAgg, hk]
theorem isLeaf_any (x : Tok) (w : World) (hk : okT x) (hG : GW w) : Calls prog 192 #[x.v] w fun e w' => e = .returned (.bool (lefP x)) ∧ Bl w w' := by
 obtain ⟨s, hv, _⟩ := tok_str x
 obtain ⟨W0, hW0⟩ := gen (w.alloc (.cells #[.int .u8 x.k, .string s, .int .i64 x.n, .int .i64 x.a] 160))
 have hb0 : Bl w W0 := by rw [← hW0]; exact (Below.refl _ _).alloc (Nat.le_refl _) _
 have hg0 : W0.heap[w.heap.size]? = some (.cells #[.int .u8 x.k, .string s, .int .i64 x.n, .int .i64 x.a] 160 (0, 0)) := by rw [← hW0]; exact heap_alloc_new w _
 have HR0 : Hid (W0.rangeAt w.heap.size 0 [.int .u8 x.k, .string s, .int .i64 x.n, .int .i64 x.a]) := rgz hg0
 have C := hid (leaf_any x W0 hk (hG.below hb0))
 rw [hv] at C ⊢
 have HB0 := hid hb0
 obtain ⟨y, hy⟩ := gen (leafP x)
 have HE : Hid (lefP x = decide (y.k ≠ 0)) := by show _ = _; unfold lefP; rw [hy]
 rw [hy] at C
 clear hv hb0 hg0 hk hG hy
 go_enter func192, ntmps192
 go_wp2_with (refine wpList_load_mid rfl 160 _ rfl w.heap.size 0 rfl _ _ HR0.out underlying160 rfl sz_tok ?_)
 refine C.out.mono ?_
 rintro e w1 ⟨rfl, hb1⟩
 have HB1 : Hid (Bl w w1) := HB0.out.trans (hb1.mono HB0.out.size)
 clear C hb1 HR0 hW0
 obtain ⟨k, tt, n⟩ := y
 rw [show (⟨k, tt, n⟩ : Stp).v = .agg #[.int .u8 (k : Int), .string ⟨tt.toArray⟩, .int .i64 n] from rfl]
 have HE1 : Hid (lefP x = decide (k ≠ 0)) := HE.out
 have hfd : ∀ w, (Instr.field 53 (.agg #[.int .u8 (k : Int), .string ⟨tt.toArray⟩, .int .i64 n]) 0).run prog w = .ok (.int .u8 (k : Int)) w := fun w => field_of (o := 0) (e := 51) (by kernel_rfl) (by kernel_rfl) Tryz.isAgg51 _ _ rfl w
 clear HE
 by_cases h0 : k = 0
 · have yn : ((k : Int) != 0) = false := by simp [h0]
   have HE2 : Hid (lefP x = false) := by show _ = _; rw [HE1.out]; simp [h0]
   clear h0
   go_wp2_with fail
   go_ret
   exact ⟨by rw [HE2.out]; rfl, HB1.out⟩
 · have yn : ((k : Int) != 0) = true := bne_iff_ne.2 (by omega)
   have HE2 : Hid (lefP x = true) := by show _ = _; rw [HE1.out]; exact decide_eq_true h0
   clear h0
   go_wp2_with fail
   go_ret
   exact ⟨by rw [HE2.out]; rfl, HB1.out⟩
def mreP (k : Nat) : Bool := decide (k = 20) || decide (k = 21)
theorem takesMore_any (k : Nat) (w : World) : Calls prog 226 #[.int .u8 (k : Int)] w fun e w' => e = .returned (.bool (mreP k)) ∧ w' = w := by
 by_cases h1 : k = 20
 · subst h1
   go_enter func226, ntmps226
   go_wp2_with fail
   go_ret
   exact ⟨rfl, rfl⟩
 · have y1 : ((k : Int) == 20) = false := bfn (by omega)
   by_cases h2 : k = 21
   · subst h2
     clear y1 h1
     go_enter func226, ntmps226
     go_wp2_with fail
     go_ret
     exact ⟨rfl, rfl⟩
   · have y2 : ((k : Int) == 21) = false := bfn (by omega)
     have HE : Hid (mreP k = false) := by show _ = _; unfold mreP; rw [decide_eq_false h1, decide_eq_false h2]; rfl
     clear h1 h2
     go_enter func226, ntmps226
     go_wp2_with fail
     go_ret
     exact ⟨by rw [HE.out]; rfl, rfl⟩
end Go.Proofs.YtfifphfihdhlaaaGreatDoor
