/- Columns copied and joined: slices.Clone, rows of one's own. -/
import Derived.Test.YtfifphfihdhlaaaGreatDoorCeCfCg
import Derived.Test.YtfifphfihdhlaaaGreatDoorQbTk
import Derived.Test.YtfifphfihdhlaaaGreatDoorCaCb
set_option maxRecDepth 100000
set_option maxHeartbeats 32000000
namespace Go.Proofs.YtfifphfihdhlaaaGreatDoor.Bd
open Tryz
open Go.Shelf Go.RowKit Go.Lib Go.Sort
set_option linter.unusedVariables false
set_option linter.unusedSimpArgs false
attribute [local go_sem ↓] Go.wp_at_zero Go.wp_at_succ
theorem fClm : Flat rClm := ⟨fun _ _ _ _ _ _ h => h, fun K W cs x h u hu => by rw [h.1] at hu; simp at hu; rcases hu with rfl | rfl <;> rfl⟩
theorem inE_clm : ∃ i0, prog.info? 50 = some i0 ∧ i0.zero = some (.agg #[.string ⟨#[]⟩, .int .u8 0]) ∧ i0.size = 2 ∧ i0.bytes = 24 := by
 have h1 : (prog.info? 50).bind (·.zero) = some (.agg #[.string ⟨#[]⟩, .int .u8 0]) := by kernel_rfl
 have h2 : (prog.info? 50).map (fun i => (i.size, i.bytes)) = some (2, 24) := by kernel_rfl
 cases h : prog.info? 50 with
 | none => rw [h] at h2; cases h2
 | some i0 =>
  rw [h] at h1 h2
  have h3 := Option.some.inj h2
  exact ⟨i0, rfl, h1, (Prod.mk.inj h3).1, (Prod.mk.inj h3).2⟩
def OwnC (base : Nat) (W : World) (u : Value) (l : List Clm) : Prop :=
 ∃ cells : List Value, W.ownsRow base 50 2 u l.length cells ∧ ∀ j (h : j < l.length), rClm (fun _ => False) W ((cells.drop (j * 2)).take 2) l[j]
theorem OwnC.kept {base : Nat} {W W' : World} {u : Value} {l : List Clm} (h : OwnC base W u l) (hk : ∀ (g : Nat) (cur : Array Value), W.heap[g]? = some (Obj.cells cur 50 (0, 0)) → W'.heap[g]? = W.heap[g]?) : OwnC base W' u l := by
 obtain ⟨cells, ⟨hl, ⟨rfl, hn⟩ | ⟨g, cap, cur, rfl, h1, hg, r⟩⟩, hr⟩ := h
 · exact ⟨cells, ⟨hl, .inl ⟨rfl, hn⟩⟩, hr⟩
 · exact ⟨cells, ⟨hl, .inr ⟨g, cap, cur, rfl, h1, (hk g cur hg).trans hg, r⟩⟩, hr⟩
theorem OwnC.later {base : Nat} {W W' : World} {u : Value} {l : List Clm} (h : OwnC base W u l) (hb : Bl W W') : OwnC base W' u l := h.kept fun g cur hg => hb.block g (gsi hg).1
theorem OwnC.less {base base' : Nat} {W : World} {u : Value} {l : List Clm} (h : OwnC base W u l) (hb : base' ≤ base) : OwnC base' W u l := by
 obtain ⟨cells, ho, hr⟩ := h
 exact ⟨cells, owns_less ho hb, hr⟩
theorem OwnC.list {base : Nat} {W : World} {u : Value} {l : List Clm} (h : OwnC base W u l) (hb : l.length * 24 ≤ 140737488355328) : ListIs rClm 2 24 (From base W) W u l := by
 obtain ⟨cells, ho, hr⟩ := h
 exact own_list (te := 50) fClm ho hb hr
theorem OwnC.slice {base : Nat} {W : World} {u : Value} {l : List Clm} (h : OwnC base W u l) : ∃ p c, u = .slice p l.length c := by
 obtain ⟨cells, ho, hr⟩ := h
 exact owns_slice ho
theorem OwnC.app {base : Nat} {X : World} {u : Value} {xs : List Clm} (h : OwnC base X u xs) (hbase : base ≤ X.heap.size) {K : Nat → Prop} {q : Option Addr} {c : Nat} {ys : List Clm} (hy : ListIs rClm 2 24 K X (.slice q ys.length c) ys) (h0 : 0 < ys.length) (hbytes : (xs.length + ys.length) * 24 ≤ 140737488355328) :
 ∃ v' X2, (Builtin.append_ #[38, 38] 38 #[u, .slice q ys.length c]).run prog X = .ok v' X2 ∧ OwnC base X2 v' (xs ++ ys) ∧ X.grownBy X2 u.ownBlock := by
 obtain ⟨cells, ho, hr⟩ := h
 obtain ⟨q', c', e, _, hp⟩ := hy
 cases e
 obtain ⟨b, o, rfl, hKb, hc⟩ := hp h0
 obtain ⟨news, h1, h2, h3⟩ := list_cells hc ys.length (Nat.le_refl _)
 obtain ⟨i0, hi, hz, hs, hby⟩ := inE_clm
 have hone : ∀ u ∈ news, u.oneCell' = true := fun u hu' => by
  obtain ⟨k, hk, rfl⟩ := List.getElem_of_mem hu'
  have hkk : k / 2 < ys.length := by omega
  refine fClm.2 _ _ _ _ (h3 (k / 2) hkk hkk) _ ?_
  rw [List.mem_iff_getElem?]
  refine ⟨k % 2, ?_⟩
  rw [List.getElem?_take_of_lt (Nat.mod_lt _ (by omega)), List.getElem?_drop, show k / 2 * 2 + k % 2 = k by omega]
  exact List.getElem?_eq_getElem hk
 have hadd : ∀ j u, news[j]? = some u → X.cell? ((⟨b, o, none⟩ : Addr).add j) = some u := fun j u hu' => by
  rw [addr_add]; exact h2 j u hu'
 obtain ⟨v', W', e, ho2, h5, _, h6⟩ := run_append_own_at (P := prog) X base 38 38 50 i0 _ 2 24 underlying38 hi hz hs hby rfl (by omega) u xs.length cells ho ⟨b, o, none⟩ ys.length c news (by rw [h1]) hadd hone (by unfold maxLen; omega) hbytes hbase
 refine ⟨v', W', e, ⟨cells ++ news, by rw [List.length_append]; exact ho2, fun j hj => ?_⟩, h5⟩
 have hl := ho.1
 by_cases hjn : j < xs.length
 · rw [List.getElem_append_left hjn, part_be hl hjn]
   exact fClm.1 _ _ _ _ _ _ (hr j hjn)
 · have hj2 : j - xs.length < ys.length := by rw [List.length_append] at hj; omega
   rw [List.getElem_append_right (by omega), part_in hl (by rw [h1]) (by omega)]
   exact fClm.1 _ _ _ _ _ _ (h3 (j - xs.length) hj2 hj2)
theorem clone_clm (K : Nat → Prop) (q : Option Addr) (c : Nat) (l : List Clm) (w : World) (h : ListIs rClm 2 24 K w (.slice q l.length c) l) (hK : ∀ b, K b → b < w.heap.size) (h0 : 0 < l.length) :
 Calls prog 69 #[.slice q l.length c] w fun e w' => (∃ p d, e = .returned (.slice p l.length d) ∧ OwnC w.heap.size w' (.slice p l.length d) l) ∧ Bl w w' := by
 have hbig : l.length * 24 ≤ 140737488355328 := by
  obtain ⟨_, _, -, ⟨h1, -⟩, -⟩ := h
  exact h1
 obtain ⟨b, o, hq, _, _⟩ := clm_at h h0
 subst hq
 obtain ⟨W1, hW1⟩ := gen (w.alloc (.cells #[] 50))
 have hb1 : Bl w W1 := by rw [← hW1]; exact below_alloc _ _
 have hg1 : W1.heap[w.heap.size]? = some (.cells #[] 50 (0, 0)) := by rw [← hW1]; exact heap_alloc_new w _
 have hown : OwnC w.heap.size W1 (.slice (some ⟨w.heap.size, 0, none⟩) 0 0) [] := ⟨[], ⟨by simp, .inr ⟨w.heap.size, 0, #[], rfl, Nat.le_refl _, hg1, Nat.le_refl _, Nat.zero_le _, by simp, by simp⟩⟩, fun j hj => by simp at hj⟩
 obtain ⟨v', X, hrun, ho, hgr⟩ := hown.app hb1.size (h.later mClm hK hb1) h0 (by simpa using hbig)
 rw [List.nil_append] at ho
 obtain ⟨p, d, rfl⟩ := ho.slice
 have hbX : Bl w X := Below.grown hb1 hgr hb1.size (fun j hj => by simp [Value.ownBlock] at hj; omega)
 obtain ⟨N, hN⟩ := gen l.length
 have hq : (binOp .eql 38 (.slice (some ⟨b, o, none⟩) N c) (.slice none 0 0)).run prog w = .ok (.bool false) w := Lib.run_eql_slice_nil (h := underlying38) ..
 have HO := hid ho
 have HB := hid hbX
 rw [hN] at hrun HO ⊢
 have HRUN := hid hrun
 clear h hK h0 hbig hb1 hg1 hown ho hgr hbX hrun hN
 go_enter func69, ntmps69
 go_wp2_with (at_builtin; refine Lib.wpList_append_run _ rfl _ _ _ _ rfl (.slice (some ⟨w.heap.size, 0, none⟩) 0 0) (.slice (some ⟨b, o, none⟩) N c) rfl rfl _ _ HRUN.out ?_)
 go_ret
 exact ⟨⟨p, d, rfl, HO.out⟩, HB.out⟩
theorem put_all (V : World) (g : Nat) (z : Array Value) (t : TypeId) (hg : V.heap[g]? = some (.cells z t (0, 0))) (cl : List Value) (hl : z.size = cl.length) :
 V.there g 0 cl.length ∧ ∃ X, V.setCells g 0 cl = X ∧ X.heap[g]? = some (.cells cl.toArray t (0, 0)) ∧ X.heap.size = V.heap.size ∧ Kept (fun b => b ≠ g) V X := by
 have ht : V.there g 0 cl.length := fun j hj => by
  rw [Nat.zero_add]
  refine ⟨?_, frozen_zero hg j⟩
  rw [cellR hg (Array.getElem?_eq_getElem (by omega : j < z.size))]
  rfl
 obtain ⟨cur, h1, h2, h3⟩ := setCells_blk g t cl 0 V z hg (by omega)
 obtain ⟨a1, a2, a3, a4, a5⟩ := setCells_any g cl 0 V
 have e : cur = cl.toArray := by
  apply Array.ext'
  rw [List.take_zero, List.nil_append, List.take_of_length_le (by simp; omega)] at h3
  simpa using h3
 exact ⟨ht, _, rfl, by rw [h1, e], a1, ⟨a2, a3, a4, by omega, fun b hb => a5 b hb⟩⟩
theorem box_all (W : World) (t : TypeId) (z : Array Value) (cl : List Value) (hl : z.size = cl.length) : ∃ WA, W.alloc (.cells z t) = WA ∧ WA.there W.heap.size 0 cl.length ∧ ∃ WS, WA.setCells W.heap.size 0 cl = WS ∧ WS.heap[W.heap.size]? = some (.cells cl.toArray t (0, 0)) ∧ WS.heap.size = W.heap.size + 1 ∧ Bl W WS := by
 obtain ⟨ht, X, hX, hg, hs, hk⟩ := put_all (W.alloc (.cells z t)) W.heap.size z t (heap_alloc_new W _) cl hl
 have hb := below_alloc W (.cells z t)
 exact ⟨_, rfl, ht, X, hX, hg, by rw [hs]; simp, ⟨hk.os.trans hb.os, hk.tape.trans hb.tape, hk.output.trans hb.output, by have := hb.size; omega, fun b h => (hk.block b (by show b ≠ _; omega)).trans (hb.block b h)⟩⟩
theorem put_below {w V X : World} {g : Nat} (h : Bl w V) (hk : Kept (fun b => b ≠ g) V X) (hs : X.heap.size = V.heap.size) (hg : w.heap.size ≤ g) : Bl w X :=
 ⟨hk.os.trans h.os, hk.tape.trans h.tape, hk.output.trans h.output, by have := h.size; omega, fun b hb => (hk.block b (by show b ≠ _; omega)).trans (h.block b hb)⟩
theorem put_one (V : World) (g k : Nat) (cl : List Value) (t : TypeId) (hg : V.heap[g]? = some (.cells cl.toArray t (0, 0))) (hk : k < cl.length) (v : Value) :
 (∃ u, V.cell? ⟨g, k, none⟩ = some u) ∧ V.frozen? ⟨g, k, none⟩ = false ∧ ∃ X, V.setCell ⟨g, k, none⟩ v = X ∧ X.heap[g]? = some (.cells (cl.set k v).toArray t (0, 0)) ∧ X.heap.size = V.heap.size ∧ Kept (fun b => b ≠ g) V X := by
 obtain ⟨a1, a2, a3, a4, a5⟩ := setCell_any V g k v
 refine ⟨⟨cl[k], cell_of_row hg (by simp [hk])⟩, frozen_zero hg k, _, rfl, ?_, a1, ⟨a2, a3, a4, by omega, fun b hb => a5 b hb⟩⟩
 rw [heap_setCell_same V g k cl.toArray t v hg]
 simp [List.setIfInBounds_toArray]
theorem sz_scp : (prog.info? 67).map (·.size) = some 4 := by kernel_rfl
def scpC (s : Scp) (p : Option Addr) (d : Nat) : Array Value := #[.string ⟨s.t.toArray⟩, .string ⟨s.j.toArray⟩, .int .i64 (s.w : Int), .slice p s.c.length d]
def ScpE (B : Nat) (l : List Tab) (t j : List UInt8) (w : World) (e : Ending) : Prop :=
 (scopeP t j l = none ∧ e = .returned (.tuple #[.agg #[.string ⟨#[]⟩, .string ⟨#[]⟩, .int .i64 0, .slice none 0 0], .bool false])) ∨ ∃ s p d, scopeP t j l = some s ∧ e = .returned (.tuple #[.agg (scpC s p d), .bool true]) ∧ ListIs rClm 2 24 (From B w) w (.slice p s.c.length d) s.c
theorem blk_ne {W : World} {g h : Nat} {a b : Array Value} {t u : TypeId} (h1 : W.heap[g]? = some (.cells a t (0, 0))) (h2 : W.heap[h]? = some (.cells b u (0, 0))) (ht : t ≠ u) : g ≠ h := fun e => by
 subst e
 rw [h1] at h2
 injection h2 with h3
 injection h3 with _ h4 _
 exact ht h4
theorem own_ne {W : World} {g base : Nat} {a : Array Value} {t : TypeId} {u : Value} {l : List Clm} (h1 : W.heap[g]? = some (.cells a t (0, 0))) (h2 : OwnC base W u l) (ht : t ≠ 50) : u.ownBlock ≠ some g := fun e => by
 obtain ⟨cells, ⟨hl, ⟨rfl, hn⟩ | ⟨g', cap, cur, rfl, hb, hg, r⟩⟩, hr⟩ := h2
 · cases e
 · simp only [Value.ownBlock, Option.map_some, Option.some.injEq] at e
   exact blk_ne h1 hg ht e.symm
theorem scope_any (K : Nat → Prop) (q : Option Addr) (c : Nat) (l : List Tab) (t j : List UInt8) (w : World) (h : ListIs rTab 3 64 K w (.slice q l.length c) l) (hK : ∀ b, K b → b < w.heap.size) (hcat : catP l = 0) :
 Calls prog 26 #[.string ⟨t.toArray⟩, .string ⟨j.toArray⟩, .slice q l.length c] w fun e w' => ScpE w.heap.size l t j w' e ∧ Bl w w' := by
 obtain ⟨tS, htS⟩ := bya t
 obtain ⟨jS, hjS⟩ := bya j
 have hjd : jS.data.toList = j := by rw [← hjS]
 have hE := empty_text hjd
 have HTS : Hid ((⟨t.toArray⟩ : ByteArray) = tS ∧ (⟨j.toArray⟩ : ByteArray) = jS) := ⟨htS, hjS⟩
 obtain ⟨W0, hW0⟩ := gen (w.alloc (.cells #[.string ⟨#[]⟩, .string ⟨#[]⟩, .int .i64 0, .slice none 0 0] 67))
 have hb0 : Bl w W0 := by rw [← hW0]; exact below_alloc _ _
 have hg0 : W0.heap[w.heap.size]? = some (.cells #[.string ⟨#[]⟩, .string ⟨#[]⟩, .int .i64 0, .slice none 0 0] 67 (0, 0)) := by rw [← hW0]; exact heap_alloc_new w _
 have hl0 : w.heap.size < W0.heap.size := (gsi hg0).1
 have HG0 : Hid (∀ V, Bl W0 V → V.heap[w.heap.size]? = some (.cells #[.string ⟨#[]⟩, .string ⟨#[]⟩, .int .i64 0, .slice none 0 0] 67 (0, 0)) ∧ Bl w V ∧ w.heap.size < V.heap.size) := fun V hV => ⟨(hV.block _ hl0).trans hg0, hb0.trans (hV.mono (by omega)), by have := hV.size; omega⟩
 have CF : Hid (∀ (n : List UInt8) (s : ByteArray), (⟨n.toArray⟩ : ByteArray) = s → ∀ V, Bl w V → Calls prog 41 #[.slice q l.length c, .string s] V fun e w' => FoundV K l n w' e ∧ Bl V w') := fun n s hs V hV => by
  have := find_any K q c l n V (h.later mTab hK hV) (fun b hb => nlt (hK b hb) hV.size)
  rwa [hs] at this
 have HSM : Hid (∀ n a, findP l n = some a → 0 < a.c.length ∧ a.c.length ≤ 8) := fun n a ha => by
  have := tab_cols ((cat_in hcat).2 a (find_in ha).1)
  exact ⟨this.2.1, this.2.2.1⟩
 have C1 := hid (CF.out t tS htS W0 hb0)
 have HK := hid hK
 have HJD := hid hjd
 obtain ⟨N, hN⟩ := gen l.length
 rw [hN] at C1 CF
 rw [htS, hjS, hN]
 clear h hK hcat hN hb0 hg0 hl0 htS hjS hjd
 go_enter func26, ntmps26
 go_wp2_with fail
 refine C1.out.mono ?_
 rintro e w1 ⟨hF, hb1⟩
 have HB1 := hid hb1
 clear C1
 rcases hF with ⟨hf, rfl⟩ | ⟨a, pa, ca, pr, nr, cr, hf, rfl, hla, hna⟩
 · have hg1w := (HG0.out w1 HB1.out).1
   have hbw1 := (HG0.out w1 HB1.out).2.1
   have hl1 := (HG0.out w1 HB1.out).2.2
   have HS : Hid (scopeP t j l = none) := by show _ = _; unfold scopeP; rw [hf]
   unfold noTab
   obtain ⟨WB, hWB, hthB, VB, hVB, hgB, hsB, hbB⟩ := box_all w1 56 #[.string ⟨#[]⟩, .slice none 0 0, .slice none 0 0] [.string ⟨#[]⟩, .slice none 0 0, .slice none 0 0] rfl
   have hgR : VB.heap[w.heap.size]? = some (.cells #[.string ⟨#[]⟩, .string ⟨#[]⟩, .int .i64 0, .slice none 0 0] 67 (0, 0)) := (hbB.block _ hl1).trans hg1w
   have hbVB : Bl w VB := hbw1.trans (hbB.mono hbw1.size)
   obtain ⟨hthR, XR, hXR, hgXR, hsXR, hkXR⟩ := put_all VB w.heap.size #[.string ⟨#[]⟩, .string ⟨#[]⟩, .int .i64 0, .slice none 0 0] 67 hgR [.string ⟨#[]⟩, .string ⟨#[]⟩, .int .i64 0, .slice none 0 0] rfl
   have HBR : Hid (Bl w XR) := put_below hbVB hkXR hsXR (Nat.le_refl _)
   have HTB : Hid (WB.there (w1).heap.size 0 3) := hthB
   have HVB : Hid (WB.setCells (w1).heap.size 0 (#[.string ⟨#[]⟩, .slice none 0 0, .slice none 0 0] : Array Value).toList = VB) := hVB
   have HTR : Hid (VB.there w.heap.size 0 4) := hthR
   have HXR : Hid (VB.setCells w.heap.size 0 (#[.string ⟨#[]⟩, .string ⟨#[]⟩, .int .i64 0, .slice none 0 0] : Array Value).toList = XR) := hXR
   have HLD : Hid ((loadVar 67 ⟨w.heap.size, 0, none⟩).run prog XR = .ok (.agg #[.string ⟨#[]⟩, .string ⟨#[]⟩, .int .i64 0, .slice none 0 0]) XR) := run_loadVar_mid _ _ 0 67 [.string ⟨#[]⟩, .string ⟨#[]⟩, .int .i64 0, .slice none 0 0] _ (fun i u hu => by rw [Nat.zero_add]; exact cell_of_row hgXR (by simpa using hu)) underlying67 rfl sz_scp
   clear hf hb1 hg1w hbw1 hl1 hthB hVB hgB hsB hbB hgR hbVB hthR hXR hgXR hsXR hkXR hE CF HG0
   go_wp2_with (first | (refine wpList_store_mid rfl 56 _ _ rfl (w1).heap.size 0 #[.string ⟨#[]⟩, .slice none 0 0, .slice none 0 0] rfl rfl HTB.out sz_tab (by simp [Value.oneCell']) ?_; rw [HVB.out]) | (refine wpList_store_mid rfl 67 _ _ rfl w.heap.size 0 #[.string ⟨#[]⟩, .string ⟨#[]⟩, .int .i64 0, .slice none 0 0] rfl rfl HTR.out sz_scp (by simp [Value.oneCell']) ?_; rw [HXR.out]))
   refine bodyPost_ret (v := .tuple #[.agg #[.string ⟨#[]⟩, .string ⟨#[]⟩, .int .i64 0, .slice none 0 0], .bool false]) (by simp only [results, results26]; simp [asAddr, Act.put, HLD.out]) rfl ?_
   exact ⟨.inl ⟨HS.out, rfl⟩, HBR.out⟩
 · have hg1w := (HG0.out w1 HB1.out).1
   have hbw1 := (HG0.out w1 HB1.out).2.1
   have hl1 := (HG0.out w1 HB1.out).2.2
   have HFA := hid hf
   have hsm := HSM.out t a hf
   obtain ⟨M, hM⟩ := gen a.c.length
   have HM := hid hM
   obtain ⟨aS, haS⟩ := bya a.n
   rw [hM, haS]
   obtain ⟨WB, hWB, hthB, VB, hVB, hgB, hsB, hbB⟩ := box_all w1 56 #[.string ⟨#[]⟩, .slice none 0 0, .slice none 0 0] [.string aS, .slice pa M ca, .slice pr nr cr] rfl
   have HTB : Hid (WB.there w1.heap.size 0 3) := hthB
   have HVB : Hid (WB.setCells w1.heap.size 0 (#[.string aS, .slice pa M ca, .slice pr nr cr] : Array Value).toList = VB) := hVB
   obtain ⟨D, hD⟩ := gen VB.drew
   have hbD1 : Bl w1 D := by rw [← hD]; exact hbB.drew
   have hgD : D.heap[w1.heap.size]? = some (.cells #[.string aS, .slice pa M ca, .slice pr nr cr] 56 (0, 0)) := by rw [← hD]; exact hgB
   have hsD : D.heap.size = w1.heap.size + 1 := by rw [← hD]; exact hsB
   have HWD : Hid (Bl W0 D) := HB1.out.trans (hbD1.mono HB1.out.size)
   have HC1 : Hid (∀ V, Bl D V → V.cell? ⟨w1.heap.size, 1, none⟩ = some (.slice pa M ca)) := fun V hV => cell_of_row (k := 1) ((hV.block _ (by omega)).trans hgD) rfl
   have HSD := hid (HC1.out D (Below.refl _ _))
   have HLA : Hid (∀ V, Bl D V → Calls prog 69 #[.slice pa M ca] V fun e w' => (∃ p d, e = .returned (.slice p M d) ∧ OwnC V.heap.size w' (.slice p M d) a.c) ∧ Bl V w') := fun V hV => by
    have hb1V : Bl w1 V := hbD1.trans (hV.mono (by omega))
    have hk1 : ∀ b, K b → b < w1.heap.size := fun b hb => nlt (HK.out b hb) hbw1.size
    have := clone_clm K pa ca a.c V (hla.mono mClm (fun _ h => h) (kept_of hk1 hb1V)) (fun b hb => nlt (hk1 b hb) hb1V.size) hsm.1
    rwa [hM] at this
   have HSZ : Hid (w.heap.size < w1.heap.size ∧ D.heap.size = w1.heap.size + 1 ∧ 0 < M ∧ M ≤ 8) := ⟨hl1, hsD, by omega, by omega⟩
   clear hf hb1 hg1w hbw1 hl1 hthB hVB hgB hsB hbB hbD1 hgD hsD hla hna hM haS hsm
   go_wp2_with (refine wpList_store_mid rfl 56 _ _ rfl (w1).heap.size 0 #[.string aS, .slice pa M ca, .slice pr nr cr] rfl rfl HTB.out sz_tab (by simp [Value.oneCell']) ?_; rw [HVB.out])
   refine wp_region_held_drew (S := fun V => V.cell? ⟨w1.heap.size, 1, none⟩ = some (.slice pa M ca)) (by kernel_rfl) (by rw [hD]; exact HSD.out) (fun hHeld => ?_)
   refine tk0 0 (.string tS) rfl hHeld ?_
   refine tk0 1 (.pointer (some ⟨w1.heap.size, 1, none⟩)) rfl hHeld ?_
   refine tk0 2 (.slice pa M ca) rfl hHeld ?_
   refine tk0 3 (.int .i64 (M : Int)) rfl hHeld ?_
   refine tk0 4 (.pointer (some ⟨w1.heap.size, 1, none⟩)) rfl hHeld ?_
   refine tk0 5 (.slice pa M ca) rfl hHeld ?_
   simp only [Act.put, List.getElem_toArray, List.getElem_cons_zero, List.getElem_cons_succ, List.setIfInBounds_toArray, List.set_cons_zero, List.set_cons_succ]
   rw [hD] at hHeld ⊢
   clear hD
   refine wpAnyH_ready (rs := [6, 8]) (by kernel_rfl) (by simp) ?_
   refine AllReadyH.cons rfl (fun K' hK => ?_) (AllReadyH.cons rfl (fun K' hK => ?_) AllReadyH.nil)
   · rw [if_pos (by rfl)]
     go_simp
     go_at_call 69
     refine (HLA.out D (Below.refl _ _)).mono ?_
     rintro e w5 ⟨⟨p5, d5, rfl, ho5⟩, hb5⟩
     obtain ⟨WP, hWP, hthP, X, hX, hgP, hsP, hbP⟩ := box_all w5 67 #[.string ⟨#[]⟩, .string ⟨#[]⟩, .int .i64 0, .slice none 0 0] [.string tS, .string ⟨#[]⟩, .int .i64 (M : Int), .slice p5 M d5] rfl
     have hbWP : Bl w5 WP := by rw [← hWP]; exact below_alloc _ _
     have HS5 := hid (HC1.out w5 hb5)
     have HSP := hid (HC1.out WP (hb5.trans (hbWP.mono hb5.size)))
     have HSX := hid (HC1.out X (hb5.trans (hbP.mono hb5.size)))
     have hWX : Bl W0 X := HWD.out.trans ((hb5.trans (hbP.mono hb5.size)).mono HWD.out.size)
     have HGX := hid (HG0.out X hWX).1
     have HBX := hid (HG0.out X hWX).2.1
     have HPX : Hid (X.heap[w5.heap.size]? = some (.cells ([.string tS, .string ⟨#[]⟩, .int .i64 (M : Int), .slice p5 M d5] : List Value).toArray 67 (0, 0))) := hgP
     have HP : Hid (w.heap.size < w5.heap.size ∧ w5.heap.size < X.heap.size) := ⟨by have := HSZ.out; have := hb5.size; omega, by omega⟩
     have HOX : Hid (OwnC w.heap.size X (.slice p5 M d5) a.c) := (ho5.later hbP).less (by have := HSZ.out; omega)
     have HTP : Hid (WP.there w5.heap.size 0 4) := hthP
     have HXP : Hid (WP.setCells w5.heap.size 0 (#[.string tS, .string ⟨#[]⟩, .int .i64 (M : Int), .slice p5 M d5] : Array Value).toList = X) := hX
     refine hK.out _ _ HS5.out (fun hHeld => ?_)
     clear hK K' ho5 hb5 hthP hX hgP hsP hbP hbWP hWX
     refine tk0 7 (.agg #[.string tS, .string ⟨#[]⟩, .int .i64 (M : Int), .slice p5 M d5]) rfl hHeld ?_
     simp only [Act.put, List.getElem_toArray, List.getElem_cons_zero, List.getElem_cons_succ, List.setIfInBounds_toArray, List.set_cons_zero, List.set_cons_succ]
     refine wpAnyH_ready (rs := [8]) (by kernel_rfl) (by simp) ?_
     refine AllReadyH.cons rfl (fun K' hK => ?_) AllReadyH.nil
     rw [if_pos (by rfl)]
     go_simp
     clear hWP
     refine hK _ _ HSP.out (fun hHeld => ?_)
     clear hK K'
     refine wpAnyH_ready (rs := [9]) (by kernel_rfl) (by simp) ?_
     refine AllReadyH.cons rfl (fun K' hK => ?_) AllReadyH.nil
     rw [if_pos (by rfl)]
     refine wp_store_mid 67 (.tmp 10) (.tmp 28) rfl (w5.heap.size) (0) #[.string tS, .string ⟨#[]⟩, .int .i64 (M : Int), .slice p5 M d5] rfl rfl HTP.out sz_scp (by simp [Value.oneCell']) ?_
     rw [HXP.out]
     simp only [Act.put, List.getElem_toArray, List.getElem_cons_zero, List.getElem_cons_succ, List.setIfInBounds_toArray, List.set_cons_zero, List.set_cons_succ]
     refine hK _ _ HSX.out (fun hHeld => ?_)
     clear hK K'
     refine wpAnyH_done (by kernel_rfl) ?_ _
     by_cases hj : j = []
     · have t5 := hE.1 hj
       obtain ⟨hthR, XR, hXR, hgXR, hsXR, hkXR⟩ := put_all X w.heap.size #[.string ⟨#[]⟩, .string ⟨#[]⟩, .int .i64 0, .slice none 0 0] 67 HGX.out [.string tS, .string ⟨#[]⟩, .int .i64 (M : Int), .slice p5 M d5] rfl
       have HBR : Hid (Bl w XR) := put_below HBX.out hkXR hsXR (Nat.le_refl _)
       have HTR : Hid (X.there w.heap.size 0 4) := hthR
       have HXR : Hid (X.setCells w.heap.size 0 (#[.string tS, .string ⟨#[]⟩, .int .i64 (M : Int), .slice p5 M d5] : Array Value).toList = XR) := hXR
       have HLD : Hid ((loadVar 67 ⟨w.heap.size, 0, none⟩).run prog XR = .ok (.agg #[.string tS, .string ⟨#[]⟩, .int .i64 (M : Int), .slice p5 M d5]) XR) := run_loadVar_mid _ _ 0 67 [.string tS, .string ⟨#[]⟩, .int .i64 (M : Int), .slice p5 M d5] _ (fun i u hu => by rw [Nat.zero_add]; exact cell_of_row hgXR (by simpa using hu)) underlying67 rfl sz_scp
       have HRP : Hid (X.rangeAt (w5.heap.size) 0 [.string tS, .string ⟨#[]⟩, .int .i64 (M : Int), .slice p5 M d5]) := fun i u hu => by rw [Nat.zero_add]; exact cell_of_row HPX.out (by simpa using hu)
       have HOXR : Hid (OwnC w.heap.size XR (.slice p5 M d5) a.c) := HOX.out.kept fun g cur hg => hkXR.block g (by show g ≠ _; exact fun e => by subst e; exact absurd rfl (blk_ne hg HGX.out (by decide)))
       have HSC : Hid (ScpE w.heap.size l t j XR (.returned (.tuple #[.agg #[.string tS, .string ⟨#[]⟩, .int .i64 (M : Int), .slice p5 M d5], .bool true]))) := by
        refine .inr ⟨⟨t, [], a.c.length, a.c⟩, p5, d5, ?_, ?_, ?_⟩
        · unfold scopeP; rw [HFA.out]; simp only; rw [if_pos hj]
        · unfold scpC; simp only; rw [HTS.out.1, HM.out]
        · simp only; rw [HM.out]; exact HOXR.out.list (by have := HSZ.out.2.2.2; rw [HM.out]; omega)
       clear hj hE hthR hXR hgXR hsXR hkXR hHeld HOX HGX HPX HBX HOXR CF HG0
       go_wp2_with (first | (refine wpList_load_mid rfl 67 _ rfl (w5.heap.size) 0 rfl _ _ HRP.out underlying67 rfl sz_scp ?_) | (refine wpList_store_mid rfl 67 _ _ rfl w.heap.size 0 #[.string tS, .string ⟨#[]⟩, .int .i64 (M : Int), .slice p5 M d5] rfl rfl HTR.out sz_scp (by simp [Value.oneCell']) ?_; rw [HXR.out]))
       refine bodyPost_ret (v := .tuple #[.agg #[.string tS, .string ⟨#[]⟩, .int .i64 (M : Int), .slice p5 M d5], .bool true]) (by simp only [results, results26]; simp [asAddr, Act.put, HLD.out]) rfl ?_
       exact ⟨HSC.out, HBR.out⟩
     · have t5 := hE.2 hj
       have C2 := hid (CF.out j jS HTS.out.2 X HBX.out)
       have HJ := hid hj
       clear hj hE CF hHeld
       go_wp2_with fail
       refine C2.out.mono ?_
       rintro e w6 ⟨hF2, hb6⟩
       have hbw6 : Bl w w6 := HBX.out.trans (hb6.mono HBX.out.size)
       have hg6 : w6.heap[w.heap.size]? = some (.cells #[.string ⟨#[]⟩, .string ⟨#[]⟩, .int .i64 0, .slice none 0 0] 67 (0, 0)) := (hb6.block _ (by have := HP.out; omega)).trans HGX.out
       have hl6 : w.heap.size < w6.heap.size := by have := HP.out; have := hb6.size; omega
       clear C2
       rcases hF2 with ⟨hf2, rfl⟩ | ⟨b2, pb, cb, pr2, nr2, cr2, hf2, rfl, hlb, hnb⟩
       · have HS : Hid (scopeP t j l = none) := by show _ = _; unfold scopeP; rw [HFA.out]; simp only; rw [if_neg HJ.out, hf2]
         unfold noTab
         obtain ⟨WB, hWB, hthB, VB, hVB, hgB, hsB, hbB⟩ := box_all w6 56 #[.string ⟨#[]⟩, .slice none 0 0, .slice none 0 0] [.string ⟨#[]⟩, .slice none 0 0, .slice none 0 0] rfl
         have hgR : VB.heap[w.heap.size]? = some (.cells #[.string ⟨#[]⟩, .string ⟨#[]⟩, .int .i64 0, .slice none 0 0] 67 (0, 0)) := (hbB.block _ hl6).trans hg6
         have hbVB : Bl w VB := hbw6.trans (hbB.mono hbw6.size)
         obtain ⟨hthR, XR, hXR, hgXR, hsXR, hkXR⟩ := put_all VB w.heap.size #[.string ⟨#[]⟩, .string ⟨#[]⟩, .int .i64 0, .slice none 0 0] 67 hgR [.string ⟨#[]⟩, .string ⟨#[]⟩, .int .i64 0, .slice none 0 0] rfl
         have HBR : Hid (Bl w XR) := put_below hbVB hkXR hsXR (Nat.le_refl _)
         have HTB : Hid (WB.there (w6).heap.size 0 3) := hthB
         have HVB : Hid (WB.setCells (w6).heap.size 0 (#[.string ⟨#[]⟩, .slice none 0 0, .slice none 0 0] : Array Value).toList = VB) := hVB
         have HTR : Hid (VB.there w.heap.size 0 4) := hthR
         have HXR : Hid (VB.setCells w.heap.size 0 (#[.string ⟨#[]⟩, .string ⟨#[]⟩, .int .i64 0, .slice none 0 0] : Array Value).toList = XR) := hXR
         have HLD : Hid ((loadVar 67 ⟨w.heap.size, 0, none⟩).run prog XR = .ok (.agg #[.string ⟨#[]⟩, .string ⟨#[]⟩, .int .i64 0, .slice none 0 0]) XR) := run_loadVar_mid _ _ 0 67 [.string ⟨#[]⟩, .string ⟨#[]⟩, .int .i64 0, .slice none 0 0] _ (fun i u hu => by rw [Nat.zero_add]; exact cell_of_row hgXR (by simpa using hu)) underlying67 rfl sz_scp
         clear hf2 hb6 hg6 hbw6 hl6 hthB hVB hgB hsB hbB hgR hbVB hthR hXR hgXR hsXR hkXR HG0 HOX HGX HPX HBX
         go_wp2_with (first | (refine wpList_store_mid rfl 56 _ _ rfl (w6).heap.size 0 #[.string ⟨#[]⟩, .slice none 0 0, .slice none 0 0] rfl rfl HTB.out sz_tab (by simp [Value.oneCell']) ?_; rw [HVB.out]) | (refine wpList_store_mid rfl 67 _ _ rfl w.heap.size 0 #[.string ⟨#[]⟩, .string ⟨#[]⟩, .int .i64 0, .slice none 0 0] rfl rfl HTR.out sz_scp (by simp [Value.oneCell']) ?_; rw [HXR.out]))
         refine bodyPost_ret (v := .tuple #[.agg #[.string ⟨#[]⟩, .string ⟨#[]⟩, .int .i64 0, .slice none 0 0], .bool false]) (by simp only [results, results26]; simp [asAddr, Act.put, HLD.out]) rfl ?_
         exact ⟨.inl ⟨HS.out, rfl⟩, HBR.out⟩
       · have hsm2 := HSM.out j b2 hf2
         obtain ⟨M2, hM2⟩ := gen b2.c.length
         obtain ⟨bS, hbS⟩ := bya b2.n
         have HFB := hid hf2
         have HM2 := hid hM2
         have hp6 : w6.heap[w5.heap.size]? = some (.cells ([.string tS, .string ⟨#[]⟩, .int .i64 (M : Int), .slice p5 M d5] : List Value).toArray 67 (0, 0)) := (hb6.block _ (by have := HP.out; omega)).trans HPX.out
         have ho6 : OwnC w.heap.size w6 (.slice p5 M d5) a.c := HOX.out.later hb6
         have hk6 : ∀ b, K b → b < w6.heap.size := fun b hb => nlt (HK.out b hb) hbw6.size
         have hP6 : w5.heap.size < w6.heap.size := by have := HP.out; have := hb6.size; omega
         rw [hM2, hbS]
         obtain ⟨WB, hWB, hthB, VB, hVB, hgB, hsB, hbB⟩ := box_all w6 56 #[.string ⟨#[]⟩, .slice none 0 0, .slice none 0 0] [.string bS, .slice pb M2 cb, .slice pr2 nr2 cr2] rfl
         have HTB : Hid (WB.there w6.heap.size 0 3) := hthB
         have HVB : Hid (WB.setCells w6.heap.size 0 (#[.string bS, .slice pb M2 cb, .slice pr2 nr2 cr2] : Array Value).toList = VB) := hVB
         have hbV : Bl w VB := hbw6.trans (hbB.mono hbw6.size)
         have hpV := (hbB.block _ hP6).trans hp6
         have hgV := (hbB.block _ hl6).trans hg6
         have hoV : OwnC w.heap.size VB (.slice p5 M d5) a.c := ho6.later hbB
         have hlV : ListIs rClm 2 24 K VB (.slice pb b2.c.length cb) b2.c := hlb.mono mClm (fun _ h => h) (kept_of hk6 hbB)
         obtain ⟨⟨u1, cu1⟩, fu1, Y1, hY1, hpY1, hsY1, hkY1⟩ := put_one VB (w5.heap.size) 1 _ 67 hpV (by simp) (.string jS)
         have hbY1 : Bl w Y1 := put_below hbV hkY1 hsY1 (by have := HP.out; omega)
         have hoY1 : OwnC w.heap.size Y1 (.slice p5 M d5) a.c := hoV.kept fun g cur hg => hkY1.block g (by show g ≠ _; exact fun e => by subst e; exact absurd rfl (blk_ne hg hpV (by decide)))
         have hgY1 : Y1.heap[w.heap.size]? = some (.cells #[.string ⟨#[]⟩, .string ⟨#[]⟩, .int .i64 0, .slice none 0 0] 67 (0, 0)) := (hkY1.block _ (by show w.heap.size ≠ _; have := HP.out; omega)).trans hgV
         have hcT : Y1.cell? ⟨w6.heap.size, 1, none⟩ = some (.slice pb M2 cb) := (hkY1.cell (p := ⟨w6.heap.size, 1, none⟩) (by show w6.heap.size ≠ _; omega)).trans (cell_of_row (k := 1) hgB rfl)
         have hcP : Y1.cell? ⟨w5.heap.size, 3, none⟩ = some (.slice p5 M d5) := cell_of_row (k := 3) hpY1 rfl
         have hlY1 : ListIs rClm 2 24 K Y1 (.slice pb b2.c.length cb) b2.c := hlV.mono mClm (fun _ h => h) (hkY1.less fun b hb => by show b ≠ w5.heap.size; have := HK.out b hb; have := HP.out; omega)
         rw [← HM.out] at hoY1
         obtain ⟨v7, Y2, hrun, hoY2, hgr⟩ := hoY1.app hbY1.size hlY1 hsm2.1 (by have := HSZ.out.2.2.2; rw [HM.out]; omega)
         rw [HM.out] at hoY1 hrun hgr
         obtain ⟨p7, d7, hv7⟩ := hoY2.slice
         have hl7 : (a.c ++ b2.c).length = M + M2 := by rw [List.length_append, HM.out, hM2]
         rw [hl7] at hv7
         subst hv7
         rw [hM2] at hrun
         have HRUN := hid hrun
         have hpY2 := (hgr.block _ (by have := (gsi hpY1).1; exact this) (fun e => own_ne hpY1 hoY1 (by decide) e.symm)).trans hpY1
         have hgY2 := (hgr.block _ (by have := (gsi hgY1).1; exact this) (fun e => own_ne hgY1 hoY1 (by decide) e.symm)).trans hgY1
         have hbY2 : Bl w Y2 := Below.grown hbY1 hgr hbY1.size (fun g hg => by
          obtain ⟨_, ho', _⟩ := hoY1
          exact (ho'.lt g hg).1)
         obtain ⟨⟨u3, cu3⟩, fu3, Y3, hY3, hpY3, hsY3, hkY3⟩ := put_one Y2 (w5.heap.size) 3 _ 67 hpY2 (by simp) (.slice p7 (M + M2) d7)
         have hbY3 : Bl w Y3 := put_below hbY2 hkY3 hsY3 (by have := HP.out; omega)
         have hoY3 : OwnC w.heap.size Y3 (.slice p7 (M + M2) d7) (a.c ++ b2.c) := hoY2.kept fun g cur hg => hkY3.block g (by show g ≠ _; exact fun e => by subst e; exact absurd rfl (blk_ne hg hpY2 (by decide)))
         have hgY3 : Y3.heap[w.heap.size]? = some (.cells #[.string ⟨#[]⟩, .string ⟨#[]⟩, .int .i64 0, .slice none 0 0] 67 (0, 0)) := (hkY3.block _ (by show w.heap.size ≠ _; have := HP.out; omega)).trans hgY2
         have HRP : Hid (Y3.rangeAt (w5.heap.size) 0 [.string tS, .string jS, .int .i64 (M : Int), .slice p7 (M + M2) d7]) := fun i u hu => by rw [Nat.zero_add]; exact cell_of_row hpY3 (by simpa using hu)
         obtain ⟨hthR, XR, hXR, hgXR, hsXR, hkXR⟩ := put_all Y3 w.heap.size #[.string ⟨#[]⟩, .string ⟨#[]⟩, .int .i64 0, .slice none 0 0] 67 hgY3 [.string tS, .string jS, .int .i64 (M : Int), .slice p7 (M + M2) d7] rfl
         have HBR : Hid (Bl w XR) := put_below hbY3 hkXR hsXR (Nat.le_refl _)
         have HTR : Hid (Y3.there w.heap.size 0 4) := hthR
         have HXR : Hid (Y3.setCells w.heap.size 0 (#[.string tS, .string jS, .int .i64 (M : Int), .slice p7 (M + M2) d7] : Array Value).toList = XR) := hXR
         have HLD : Hid ((loadVar 67 ⟨w.heap.size, 0, none⟩).run prog XR = .ok (.agg #[.string tS, .string jS, .int .i64 (M : Int), .slice p7 (M + M2) d7]) XR) := run_loadVar_mid _ _ 0 67 [.string tS, .string jS, .int .i64 (M : Int), .slice p7 (M + M2) d7] _ (fun i u hu => by rw [Nat.zero_add]; exact cell_of_row hgXR (by simpa using hu)) underlying67 rfl sz_scp
         have HOXR : Hid (OwnC w.heap.size XR (.slice p7 (M + M2) d7) (a.c ++ b2.c)) := hoY3.kept fun g cur hg => hkXR.block g (by show g ≠ _; exact fun e => by subst e; exact absurd rfl (blk_ne hg hgY3 (by decide)))
         have HSC : Hid (ScpE w.heap.size l t j XR (.returned (.tuple #[.agg #[.string tS, .string jS, .int .i64 (M : Int), .slice p7 (M + M2) d7], .bool true]))) := by
          refine .inr ⟨⟨t, j, a.c.length, a.c ++ b2.c⟩, p7, d7, ?_, ?_, ?_⟩
          · unfold scopeP; rw [HFA.out]; simp only; rw [if_neg HJ.out, HFB.out]
          · unfold scpC; simp only; rw [HTS.out.1, HTS.out.2, HM.out, hl7]
          · simp only; rw [hl7]; exact HOXR.out.list (by rw [hl7]; have := HSZ.out.2.2.2; have := hsm2.2; omega)
         clear hf2 hb6 hg6 hbw6 hl6 hthB hVB hgB hsB hbB hgV hbV hpV hoV hlV hp6 ho6 hk6 hP6 hlb hnb hM2 hbS hpY1 hsY1 hkY1 hbY1 hoY1 hgY1 hlY1 hrun hoY2 hgr hl7 hpY2 hgY2 hbY2 hpY3 hsY3 hkY3 hbY3 hoY3 hgY3 hthR hXR hgXR hsXR hkXR hsm2 HG0 HOX HGX HPX HBX HOXR
         go_wp2_with (first | (refine wpList_store_mid rfl 56 _ _ rfl (w6).heap.size 0 #[.string bS, .slice pb M2 cb, .slice pr2 nr2 cr2] rfl rfl HTB.out sz_tab (by simp [Value.oneCell']) ?_; rw [HVB.out]) | (at_builtin; refine Lib.wpList_append_run _ rfl _ _ _ _ rfl (.slice p5 M d5) (.slice pb M2 cb) rfl rfl _ _ HRUN.out ?_) | (refine wpList_load_mid rfl 67 _ rfl (w5.heap.size) 0 rfl _ _ HRP.out underlying67 rfl sz_scp ?_) | (refine wpList_store_mid rfl 67 _ _ rfl w.heap.size 0 #[.string tS, .string jS, .int .i64 (M : Int), .slice p7 (M + M2) d7] rfl rfl HTR.out sz_scp (by simp [Value.oneCell']) ?_; rw [HXR.out]))
         refine bodyPost_ret (v := .tuple #[.agg #[.string tS, .string jS, .int .i64 (M : Int), .slice p7 (M + M2) d7], .bool true]) (by simp only [results, results26]; simp [asAddr, Act.put, HLD.out]) rfl ?_
         exact ⟨HSC.out, HBR.out⟩
   · rw [if_pos (by rfl)]
     go_simp
     obtain ⟨DA, hDA⟩ := gen (D.alloc (.cells #[.string ⟨#[]⟩, .string ⟨#[]⟩, .int .i64 0, .slice none 0 0] 67))
     have hbA : Bl D DA := by rw [← hDA]; exact below_alloc _ _
     have hgA : DA.heap[D.heap.size]? = some (.cells #[.string ⟨#[]⟩, .string ⟨#[]⟩, .int .i64 0, .slice none 0 0] 67 (0, 0)) := by rw [← hDA]; exact heap_alloc_new D _
     have hsA : DA.heap.size = D.heap.size + 1 := by rw [← hDA]; simp
     rw [hDA]
     have HSA := hid (HC1.out DA hbA)
     have HDA : Hid (Bl D DA ∧ DA.heap[D.heap.size]? = some (.cells #[.string ⟨#[]⟩, .string ⟨#[]⟩, .int .i64 0, .slice none 0 0] 67 (0, 0)) ∧ DA.heap.size = D.heap.size + 1) := ⟨hbA, hgA, hsA⟩
     refine hK.out _ _ HSA.out (fun hHeld => ?_)
     clear hK K' hDA hbA hgA hsA
     refine wpAnyH_ready (rs := [6]) (by kernel_rfl) (by simp) ?_
     refine AllReadyH.cons rfl (fun K' hK => ?_) AllReadyH.nil
     rw [if_pos (by rfl)]
     go_simp
     go_at_call 69
     refine (HLA.out DA HDA.out.1).mono ?_
     rintro e w5 ⟨⟨p5, d5, rfl, ho5⟩, hb5⟩
     have hg5 : w5.heap[D.heap.size]? = some (.cells #[.string ⟨#[]⟩, .string ⟨#[]⟩, .int .i64 0, .slice none 0 0] 67 (0, 0)) := (hb5.block _ (by have := HDA.out.2.2; omega)).trans HDA.out.2.1
     obtain ⟨hthP, X, hX, hgP, hsP, hkP⟩ := put_all w5 D.heap.size #[.string ⟨#[]⟩, .string ⟨#[]⟩, .int .i64 0, .slice none 0 0] 67 hg5 [.string tS, .string ⟨#[]⟩, .int .i64 (M : Int), .slice p5 M d5] rfl
     have hbD5 : Bl D w5 := HDA.out.1.trans (hb5.mono HDA.out.1.size)
     have hbDX : Bl D X := put_below hbD5 hkP hsP (Nat.le_refl _)
     have HS5 := hid (HC1.out w5 hbD5)
     have HSX := hid (HC1.out X hbDX)
     have hWX : Bl W0 X := HWD.out.trans (hbDX.mono HWD.out.size)
     have HGX := hid (HG0.out X hWX).1
     have HBX := hid (HG0.out X hWX).2.1
     have HPX : Hid (X.heap[D.heap.size]? = some (.cells ([.string tS, .string ⟨#[]⟩, .int .i64 (M : Int), .slice p5 M d5] : List Value).toArray 67 (0, 0))) := hgP
     have HP : Hid (w.heap.size < D.heap.size ∧ D.heap.size < X.heap.size) := ⟨by have := HSZ.out; omega, (gsi hgP).1⟩
     have HOX : Hid (OwnC w.heap.size X (.slice p5 M d5) a.c) := (ho5.less (by have := HSZ.out; have := HDA.out.2.2; omega)).kept fun g cur hg => hkP.block g (by show g ≠ _; exact fun e => by subst e; exact absurd rfl (blk_ne hg hg5 (by decide)))
     have HTP : Hid (w5.there D.heap.size 0 4) := hthP
     have HXP : Hid (w5.setCells D.heap.size 0 (#[.string tS, .string ⟨#[]⟩, .int .i64 (M : Int), .slice p5 M d5] : Array Value).toList = X) := hX
     refine hK.out _ _ HS5.out (fun hHeld => ?_)
     clear hK K' ho5 hb5 hthP hX hgP hsP hkP hg5 hbD5 hbDX hWX
     refine tk0 7 (.agg #[.string tS, .string ⟨#[]⟩, .int .i64 (M : Int), .slice p5 M d5]) rfl hHeld ?_
     simp only [Act.put, List.getElem_toArray, List.getElem_cons_zero, List.getElem_cons_succ, List.setIfInBounds_toArray, List.set_cons_zero, List.set_cons_succ]
     refine wpAnyH_ready (rs := [9]) (by kernel_rfl) (by simp) ?_
     refine AllReadyH.cons rfl (fun K' hK => ?_) AllReadyH.nil
     rw [if_pos (by rfl)]
     refine wp_store_mid 67 (.tmp 10) (.tmp 28) rfl (D.heap.size) (0) #[.string tS, .string ⟨#[]⟩, .int .i64 (M : Int), .slice p5 M d5] rfl rfl HTP.out sz_scp (by simp [Value.oneCell']) ?_
     rw [HXP.out]
     simp only [Act.put, List.getElem_toArray, List.getElem_cons_zero, List.getElem_cons_succ, List.setIfInBounds_toArray, List.set_cons_zero, List.set_cons_succ]
     refine hK _ _ HSX.out (fun hHeld => ?_)
     clear hK K'
     refine wpAnyH_done (by kernel_rfl) ?_ _
     by_cases hj : j = []
     · have t5 := hE.1 hj
       obtain ⟨hthR, XR, hXR, hgXR, hsXR, hkXR⟩ := put_all X w.heap.size #[.string ⟨#[]⟩, .string ⟨#[]⟩, .int .i64 0, .slice none 0 0] 67 HGX.out [.string tS, .string ⟨#[]⟩, .int .i64 (M : Int), .slice p5 M d5] rfl
       have HBR : Hid (Bl w XR) := put_below HBX.out hkXR hsXR (Nat.le_refl _)
       have HTR : Hid (X.there w.heap.size 0 4) := hthR
       have HXR : Hid (X.setCells w.heap.size 0 (#[.string tS, .string ⟨#[]⟩, .int .i64 (M : Int), .slice p5 M d5] : Array Value).toList = XR) := hXR
       have HLD : Hid ((loadVar 67 ⟨w.heap.size, 0, none⟩).run prog XR = .ok (.agg #[.string tS, .string ⟨#[]⟩, .int .i64 (M : Int), .slice p5 M d5]) XR) := run_loadVar_mid _ _ 0 67 [.string tS, .string ⟨#[]⟩, .int .i64 (M : Int), .slice p5 M d5] _ (fun i u hu => by rw [Nat.zero_add]; exact cell_of_row hgXR (by simpa using hu)) underlying67 rfl sz_scp
       have HRP : Hid (X.rangeAt (D.heap.size) 0 [.string tS, .string ⟨#[]⟩, .int .i64 (M : Int), .slice p5 M d5]) := fun i u hu => by rw [Nat.zero_add]; exact cell_of_row HPX.out (by simpa using hu)
       have HOXR : Hid (OwnC w.heap.size XR (.slice p5 M d5) a.c) := HOX.out.kept fun g cur hg => hkXR.block g (by show g ≠ _; exact fun e => by subst e; exact absurd rfl (blk_ne hg HGX.out (by decide)))
       have HSC : Hid (ScpE w.heap.size l t j XR (.returned (.tuple #[.agg #[.string tS, .string ⟨#[]⟩, .int .i64 (M : Int), .slice p5 M d5], .bool true]))) := by
        refine .inr ⟨⟨t, [], a.c.length, a.c⟩, p5, d5, ?_, ?_, ?_⟩
        · unfold scopeP; rw [HFA.out]; simp only; rw [if_pos hj]
        · unfold scpC; simp only; rw [HTS.out.1, HM.out]
        · simp only; rw [HM.out]; exact HOXR.out.list (by have := HSZ.out.2.2.2; rw [HM.out]; omega)
       clear hj hE hthR hXR hgXR hsXR hkXR hHeld HOX HGX HPX HBX HOXR CF HG0
       go_wp2_with (first | (refine wpList_load_mid rfl 67 _ rfl (D.heap.size) 0 rfl _ _ HRP.out underlying67 rfl sz_scp ?_) | (refine wpList_store_mid rfl 67 _ _ rfl w.heap.size 0 #[.string tS, .string ⟨#[]⟩, .int .i64 (M : Int), .slice p5 M d5] rfl rfl HTR.out sz_scp (by simp [Value.oneCell']) ?_; rw [HXR.out]))
       refine bodyPost_ret (v := .tuple #[.agg #[.string tS, .string ⟨#[]⟩, .int .i64 (M : Int), .slice p5 M d5], .bool true]) (by simp only [results, results26]; simp [asAddr, Act.put, HLD.out]) rfl ?_
       exact ⟨HSC.out, HBR.out⟩
     · have t5 := hE.2 hj
       have C2 := hid (CF.out j jS HTS.out.2 X HBX.out)
       have HJ := hid hj
       clear hj hE CF hHeld
       go_wp2_with fail
       refine C2.out.mono ?_
       rintro e w6 ⟨hF2, hb6⟩
       have hbw6 : Bl w w6 := HBX.out.trans (hb6.mono HBX.out.size)
       have hg6 : w6.heap[w.heap.size]? = some (.cells #[.string ⟨#[]⟩, .string ⟨#[]⟩, .int .i64 0, .slice none 0 0] 67 (0, 0)) := (hb6.block _ (by have := HP.out; omega)).trans HGX.out
       have hl6 : w.heap.size < w6.heap.size := by have := HP.out; have := hb6.size; omega
       clear C2
       rcases hF2 with ⟨hf2, rfl⟩ | ⟨b2, pb, cb, pr2, nr2, cr2, hf2, rfl, hlb, hnb⟩
       · have HS : Hid (scopeP t j l = none) := by show _ = _; unfold scopeP; rw [HFA.out]; simp only; rw [if_neg HJ.out, hf2]
         unfold noTab
         obtain ⟨WB, hWB, hthB, VB, hVB, hgB, hsB, hbB⟩ := box_all w6 56 #[.string ⟨#[]⟩, .slice none 0 0, .slice none 0 0] [.string ⟨#[]⟩, .slice none 0 0, .slice none 0 0] rfl
         have hgR : VB.heap[w.heap.size]? = some (.cells #[.string ⟨#[]⟩, .string ⟨#[]⟩, .int .i64 0, .slice none 0 0] 67 (0, 0)) := (hbB.block _ hl6).trans hg6
         have hbVB : Bl w VB := hbw6.trans (hbB.mono hbw6.size)
         obtain ⟨hthR, XR, hXR, hgXR, hsXR, hkXR⟩ := put_all VB w.heap.size #[.string ⟨#[]⟩, .string ⟨#[]⟩, .int .i64 0, .slice none 0 0] 67 hgR [.string ⟨#[]⟩, .string ⟨#[]⟩, .int .i64 0, .slice none 0 0] rfl
         have HBR : Hid (Bl w XR) := put_below hbVB hkXR hsXR (Nat.le_refl _)
         have HTB : Hid (WB.there (w6).heap.size 0 3) := hthB
         have HVB : Hid (WB.setCells (w6).heap.size 0 (#[.string ⟨#[]⟩, .slice none 0 0, .slice none 0 0] : Array Value).toList = VB) := hVB
         have HTR : Hid (VB.there w.heap.size 0 4) := hthR
         have HXR : Hid (VB.setCells w.heap.size 0 (#[.string ⟨#[]⟩, .string ⟨#[]⟩, .int .i64 0, .slice none 0 0] : Array Value).toList = XR) := hXR
         have HLD : Hid ((loadVar 67 ⟨w.heap.size, 0, none⟩).run prog XR = .ok (.agg #[.string ⟨#[]⟩, .string ⟨#[]⟩, .int .i64 0, .slice none 0 0]) XR) := run_loadVar_mid _ _ 0 67 [.string ⟨#[]⟩, .string ⟨#[]⟩, .int .i64 0, .slice none 0 0] _ (fun i u hu => by rw [Nat.zero_add]; exact cell_of_row hgXR (by simpa using hu)) underlying67 rfl sz_scp
         clear hf2 hb6 hg6 hbw6 hl6 hthB hVB hgB hsB hbB hgR hbVB hthR hXR hgXR hsXR hkXR HG0 HOX HGX HPX HBX
         go_wp2_with (first | (refine wpList_store_mid rfl 56 _ _ rfl (w6).heap.size 0 #[.string ⟨#[]⟩, .slice none 0 0, .slice none 0 0] rfl rfl HTB.out sz_tab (by simp [Value.oneCell']) ?_; rw [HVB.out]) | (refine wpList_store_mid rfl 67 _ _ rfl w.heap.size 0 #[.string ⟨#[]⟩, .string ⟨#[]⟩, .int .i64 0, .slice none 0 0] rfl rfl HTR.out sz_scp (by simp [Value.oneCell']) ?_; rw [HXR.out]))
         refine bodyPost_ret (v := .tuple #[.agg #[.string ⟨#[]⟩, .string ⟨#[]⟩, .int .i64 0, .slice none 0 0], .bool false]) (by simp only [results, results26]; simp [asAddr, Act.put, HLD.out]) rfl ?_
         exact ⟨.inl ⟨HS.out, rfl⟩, HBR.out⟩
       · have hsm2 := HSM.out j b2 hf2
         obtain ⟨M2, hM2⟩ := gen b2.c.length
         obtain ⟨bS, hbS⟩ := bya b2.n
         have HFB := hid hf2
         have HM2 := hid hM2
         have hp6 : w6.heap[D.heap.size]? = some (.cells ([.string tS, .string ⟨#[]⟩, .int .i64 (M : Int), .slice p5 M d5] : List Value).toArray 67 (0, 0)) := (hb6.block _ (by have := HP.out; omega)).trans HPX.out
         have ho6 : OwnC w.heap.size w6 (.slice p5 M d5) a.c := HOX.out.later hb6
         have hk6 : ∀ b, K b → b < w6.heap.size := fun b hb => nlt (HK.out b hb) hbw6.size
         have hP6 : D.heap.size < w6.heap.size := by have := HP.out; have := hb6.size; omega
         rw [hM2, hbS]
         obtain ⟨WB, hWB, hthB, VB, hVB, hgB, hsB, hbB⟩ := box_all w6 56 #[.string ⟨#[]⟩, .slice none 0 0, .slice none 0 0] [.string bS, .slice pb M2 cb, .slice pr2 nr2 cr2] rfl
         have HTB : Hid (WB.there w6.heap.size 0 3) := hthB
         have HVB : Hid (WB.setCells w6.heap.size 0 (#[.string bS, .slice pb M2 cb, .slice pr2 nr2 cr2] : Array Value).toList = VB) := hVB
         have hbV : Bl w VB := hbw6.trans (hbB.mono hbw6.size)
         have hpV := (hbB.block _ hP6).trans hp6
         have hgV := (hbB.block _ hl6).trans hg6
         have hoV : OwnC w.heap.size VB (.slice p5 M d5) a.c := ho6.later hbB
         have hlV : ListIs rClm 2 24 K VB (.slice pb b2.c.length cb) b2.c := hlb.mono mClm (fun _ h => h) (kept_of hk6 hbB)
         obtain ⟨⟨u1, cu1⟩, fu1, Y1, hY1, hpY1, hsY1, hkY1⟩ := put_one VB (D.heap.size) 1 _ 67 hpV (by simp) (.string jS)
         have hbY1 : Bl w Y1 := put_below hbV hkY1 hsY1 (by have := HP.out; omega)
         have hoY1 : OwnC w.heap.size Y1 (.slice p5 M d5) a.c := hoV.kept fun g cur hg => hkY1.block g (by show g ≠ _; exact fun e => by subst e; exact absurd rfl (blk_ne hg hpV (by decide)))
         have hgY1 : Y1.heap[w.heap.size]? = some (.cells #[.string ⟨#[]⟩, .string ⟨#[]⟩, .int .i64 0, .slice none 0 0] 67 (0, 0)) := (hkY1.block _ (by show w.heap.size ≠ _; have := HP.out; omega)).trans hgV
         have hcT : Y1.cell? ⟨w6.heap.size, 1, none⟩ = some (.slice pb M2 cb) := (hkY1.cell (p := ⟨w6.heap.size, 1, none⟩) (by show w6.heap.size ≠ _; omega)).trans (cell_of_row (k := 1) hgB rfl)
         have hcP : Y1.cell? ⟨D.heap.size, 3, none⟩ = some (.slice p5 M d5) := cell_of_row (k := 3) hpY1 rfl
         have hlY1 : ListIs rClm 2 24 K Y1 (.slice pb b2.c.length cb) b2.c := hlV.mono mClm (fun _ h => h) (hkY1.less fun b hb => by show b ≠ D.heap.size; have := HK.out b hb; have := HP.out; omega)
         rw [← HM.out] at hoY1
         obtain ⟨v7, Y2, hrun, hoY2, hgr⟩ := hoY1.app hbY1.size hlY1 hsm2.1 (by have := HSZ.out.2.2.2; rw [HM.out]; omega)
         rw [HM.out] at hoY1 hrun hgr
         obtain ⟨p7, d7, hv7⟩ := hoY2.slice
         have hl7 : (a.c ++ b2.c).length = M + M2 := by rw [List.length_append, HM.out, hM2]
         rw [hl7] at hv7
         subst hv7
         rw [hM2] at hrun
         have HRUN := hid hrun
         have hpY2 := (hgr.block _ (by have := (gsi hpY1).1; exact this) (fun e => own_ne hpY1 hoY1 (by decide) e.symm)).trans hpY1
         have hgY2 := (hgr.block _ (by have := (gsi hgY1).1; exact this) (fun e => own_ne hgY1 hoY1 (by decide) e.symm)).trans hgY1
         have hbY2 : Bl w Y2 := Below.grown hbY1 hgr hbY1.size (fun g hg => by
          obtain ⟨_, ho', _⟩ := hoY1
          exact (ho'.lt g hg).1)
         obtain ⟨⟨u3, cu3⟩, fu3, Y3, hY3, hpY3, hsY3, hkY3⟩ := put_one Y2 (D.heap.size) 3 _ 67 hpY2 (by simp) (.slice p7 (M + M2) d7)
         have hbY3 : Bl w Y3 := put_below hbY2 hkY3 hsY3 (by have := HP.out; omega)
         have hoY3 : OwnC w.heap.size Y3 (.slice p7 (M + M2) d7) (a.c ++ b2.c) := hoY2.kept fun g cur hg => hkY3.block g (by show g ≠ _; exact fun e => by subst e; exact absurd rfl (blk_ne hg hpY2 (by decide)))
         have hgY3 : Y3.heap[w.heap.size]? = some (.cells #[.string ⟨#[]⟩, .string ⟨#[]⟩, .int .i64 0, .slice none 0 0] 67 (0, 0)) := (hkY3.block _ (by show w.heap.size ≠ _; have := HP.out; omega)).trans hgY2
         have HRP : Hid (Y3.rangeAt (D.heap.size) 0 [.string tS, .string jS, .int .i64 (M : Int), .slice p7 (M + M2) d7]) := fun i u hu => by rw [Nat.zero_add]; exact cell_of_row hpY3 (by simpa using hu)
         obtain ⟨hthR, XR, hXR, hgXR, hsXR, hkXR⟩ := put_all Y3 w.heap.size #[.string ⟨#[]⟩, .string ⟨#[]⟩, .int .i64 0, .slice none 0 0] 67 hgY3 [.string tS, .string jS, .int .i64 (M : Int), .slice p7 (M + M2) d7] rfl
         have HBR : Hid (Bl w XR) := put_below hbY3 hkXR hsXR (Nat.le_refl _)
         have HTR : Hid (Y3.there w.heap.size 0 4) := hthR
         have HXR : Hid (Y3.setCells w.heap.size 0 (#[.string tS, .string jS, .int .i64 (M : Int), .slice p7 (M + M2) d7] : Array Value).toList = XR) := hXR
         have HLD : Hid ((loadVar 67 ⟨w.heap.size, 0, none⟩).run prog XR = .ok (.agg #[.string tS, .string jS, .int .i64 (M : Int), .slice p7 (M + M2) d7]) XR) := run_loadVar_mid _ _ 0 67 [.string tS, .string jS, .int .i64 (M : Int), .slice p7 (M + M2) d7] _ (fun i u hu => by rw [Nat.zero_add]; exact cell_of_row hgXR (by simpa using hu)) underlying67 rfl sz_scp
         have HOXR : Hid (OwnC w.heap.size XR (.slice p7 (M + M2) d7) (a.c ++ b2.c)) := hoY3.kept fun g cur hg => hkXR.block g (by show g ≠ _; exact fun e => by subst e; exact absurd rfl (blk_ne hg hgY3 (by decide)))
         have HSC : Hid (ScpE w.heap.size l t j XR (.returned (.tuple #[.agg #[.string tS, .string jS, .int .i64 (M : Int), .slice p7 (M + M2) d7], .bool true]))) := by
          refine .inr ⟨⟨t, j, a.c.length, a.c ++ b2.c⟩, p7, d7, ?_, ?_, ?_⟩
          · unfold scopeP; rw [HFA.out]; simp only; rw [if_neg HJ.out, HFB.out]
          · unfold scpC; simp only; rw [HTS.out.1, HTS.out.2, HM.out, hl7]
          · simp only; rw [hl7]; exact HOXR.out.list (by rw [hl7]; have := HSZ.out.2.2.2; have := hsm2.2; omega)
         clear hf2 hb6 hg6 hbw6 hl6 hthB hVB hgB hsB hbB hgV hbV hpV hoV hlV hp6 ho6 hk6 hP6 hlb hnb hM2 hbS hpY1 hsY1 hkY1 hbY1 hoY1 hgY1 hlY1 hrun hoY2 hgr hl7 hpY2 hgY2 hbY2 hpY3 hsY3 hkY3 hbY3 hoY3 hgY3 hthR hXR hgXR hsXR hkXR hsm2 HG0 HOX HGX HPX HBX HOXR
         go_wp2_with (first | (refine wpList_store_mid rfl 56 _ _ rfl (w6).heap.size 0 #[.string bS, .slice pb M2 cb, .slice pr2 nr2 cr2] rfl rfl HTB.out sz_tab (by simp [Value.oneCell']) ?_; rw [HVB.out]) | (at_builtin; refine Lib.wpList_append_run _ rfl _ _ _ _ rfl (.slice p5 M d5) (.slice pb M2 cb) rfl rfl _ _ HRUN.out ?_) | (refine wpList_load_mid rfl 67 _ rfl (D.heap.size) 0 rfl _ _ HRP.out underlying67 rfl sz_scp ?_) | (refine wpList_store_mid rfl 67 _ _ rfl w.heap.size 0 #[.string tS, .string jS, .int .i64 (M : Int), .slice p7 (M + M2) d7] rfl rfl HTR.out sz_scp (by simp [Value.oneCell']) ?_; rw [HXR.out]))
         refine bodyPost_ret (v := .tuple #[.agg #[.string tS, .string jS, .int .i64 (M : Int), .slice p7 (M + M2) d7], .bool true]) (by simp only [results, results26]; simp [asAddr, Act.put, HLD.out]) rfl ?_
         exact ⟨HSC.out, HBR.out⟩
end Go.Proofs.YtfifphfihdhlaaaGreatDoor.Bd
