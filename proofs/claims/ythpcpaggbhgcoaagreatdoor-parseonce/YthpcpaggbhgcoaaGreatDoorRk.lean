/- What is read is its asker's own: the walk of ParseOwn. -/
import Derived.Test.YthpcpaggbhgcoaaGreatDoorRiRj
namespace Go.Proofs.YthpcpaggbhgcoaaGreatDoor
open Go.Shelf Go.RowKit Go.Lib Go.Sort
set_option linter.unusedVariables false
set_option linter.unusedSimpArgs false
attribute [local go_sem ↓] Go.wp_at_zero Go.wp_at_succ
/-- A row that may be written, of which each part has such a value at its place off. -/
def RowOk (lo hi : Nat) (W : World) (p : Option Addr) (n c size : Nat) (te : TypeId) (off : Nat) (P : Value → Prop) : Prop :=
  n = 0 ∨ ∃ g cur, p = some ⟨g, 0, none⟩ ∧ (lo ≤ g ∧ g < hi) ∧ W.heap[g]? = some (.cells cur te (0, 0)) ∧ ∀ j, j < n → ∃ v, cur[j * size + off]? = some v ∧ P v
theorem rowOk_of {α : Type} {rel : Rel α} {size : Nat} {te : TypeId} {base : Nat} {W : World} {p : Option Addr} {n c : Nat} {xs : List α} (h : OwnR rel size te base W (.slice p n c) xs) (off : Nat) (hoff : off < size) (P : Value → Prop) (hP : ∀ K W cs x, rel K W cs x → ∃ v, cs[off]? = some v ∧ P v) : RowOk base W.heap.size W p n c size te off P := by
  have hn := (ownForm h).1
  obtain ⟨K, cells, hK, ⟨h1, h2⟩, hrel⟩ := h
  rcases h2 with ⟨e, h0⟩ | ⟨g, cap, cur, e, hb, hg, hc1, hc2, hc3, hc4⟩
  · cases e; exact .inl rfl
  · cases e
    refine .inr ⟨g, cur, rfl, ⟨hb, (Array.getElem?_eq_some_iff.1 hg).1⟩, hg, fun j hj => ?_⟩
    obtain ⟨v, hv, hPv⟩ := hP _ _ _ _ (hrel j hj)
    refine ⟨v, ?_, hPv⟩
    rw [List.getElem?_take_of_lt hoff, List.getElem?_drop, ← hc4] at hv
    have hlt : j * size + off < xs.length * size := by
      have := Nat.mul_le_mul_right size (show j + 1 ≤ xs.length by omega)
      rw [Nat.add_mul, Nat.one_mul] at this
      omega
    rw [List.getElem?_take_of_lt hlt] at hv
    simpa using hv
theorem RowOk.kept {lo hi : Nat} {W W' : World} {p : Option Addr} {n c size : Nat} {te : TypeId} {off : Nat} {P : Value → Prop} (h : RowOk lo hi W p n c size te off P) (hk : ∀ (b : Nat) (cur : Array Value), W.heap[b]? = some (Obj.cells cur te (0, 0)) → W'.heap[b]? = W.heap[b]?) : RowOk lo hi W' p n c size te off P := by
  rcases h with h | ⟨g, cur, e, hb, hg, hr⟩
  · exact .inl h
  · exact .inr ⟨g, cur, e, hb, (hk g cur hg).trans hg, hr⟩
/-- A value is put at one place of a row. -/
theorem row_set {lo hi : Nat} {W : World} {g : Nat} {cur : Array Value} {n c size : Nat} {te : TypeId} {off : Nat} {P : Value → Prop} (hg : W.heap[g]? = some (.cells cur te (0, 0))) (hlo : lo ≤ g ∧ g < hi) (hr : ∀ j, j < n → ∃ v, cur[j * size + off]? = some v ∧ P v) (i : Nat) (v : Value) (hv : P v) :
    RowOk lo hi (W.setCell ⟨g, i * size + off, none⟩ v) (some ⟨g, 0, none⟩) n c size te off P ∧ Kept (fun b => b ≠ g) W (W.setCell ⟨g, i * size + off, none⟩ v) ∧ (W.setCell ⟨g, i * size + off, none⟩ v).heap.size = W.heap.size := by
  obtain ⟨a1, a2, a3, a4, a5⟩ := setCell_any W g (i * size + off) v
  refine ⟨.inr ⟨g, _, rfl, hlo, heap_setCell_same W g (i * size + off) cur te v hg, fun j hj => ?_⟩, ⟨a2, a3, a4, by omega, a5⟩, a1⟩
  obtain ⟨u, hu, hPu⟩ := hr j hj
  have hlt := (Array.getElem?_eq_some_iff.1 hu).1
  by_cases e : i * size + off = j * size + off
  · rw [e]
    exact ⟨v, by simp [hlt], hv⟩
  · exact ⟨u, by rw [Array.getElem?_setIfInBounds_ne e]; exact hu, hPu⟩
theorem items_small {base : Nat} {W : World} {vi vw vg : Value} {q : Qry} (h : QIn base W vi vw vg q) : q.i.length ≤ 8 ∧ ∀ x ∈ q.i, x.e.length ≤ 64 := by
  refine ⟨h.1.2, fun x hx => ?_⟩
  obtain ⟨K, cells, _, _, hr⟩ := h.1.1
  obtain ⟨j, hj, rfl⟩ := List.getElem_of_mem hx
  obtain ⟨_, _, _, _, h64⟩ := hr j hj
  exact h64
def IsI64 (v : Value) : Prop := ∃ n, v = .int .i64 n
def IsU8 (v : Value) : Prop := ∃ n, v = .int .u8 n
def IsStr (v : Value) : Prop := ∃ s, v = .string s
set_option maxRecDepth 100000 in
set_option maxHeartbeats 16000000 in
theorem own_walk (s : ByteArray) (w : World) (hs : s.size ≤ 9223372036854775807) (h : GA w) : Calls Tryz.prog 5 #[.string s] w fun e w' => e = .returned (.bool true) ∧ Below w.heap.size w w' := by
  have HG := hid h
  have C1 := hid (lives_any w h)
  obtain ⟨q, y, a, hpq⟩ : ∃ q y a, parseP s.data.toList = (q, y, a) := ⟨_, _, _, rfl⟩
  have HPQ := hid hpq
  clear h hpq
  go_enter Tryz.func5, Tryz.ntmps5
  go_wp2_with fail
  refine C1.out.mono ?_
  rintro e w1 ⟨rfl, hb1⟩
  have hG1 := HG.out.below hb1
  have C2 : Hid (Calls Tryz.prog 7 #[.string s] w1 fun e w' => OutP w1 (q, y, a) e w') := by have := parse_any s w1 hs hG1.g2.1 hG1.gw hG1.h10; rw [HPQ.out] at this; exact this
  have HB1 := hid hb1
  have HG1 := hid hG1
  clear C1 hb1 hG1 HG
  go_wp2_with fail
  refine C2.out.mono ?_
  rintro e w2 ⟨v, rfl, ⟨vi, vw, vg, rfl, hin⟩, hb2⟩
  obtain ⟨pi, ci, pw, cw, pg, cg, rfl, rfl, rfl, hls⟩ := hin.ls
  obtain ⟨s0, hs0⟩ : ∃ s : ByteArray, (⟨q.t.toArray⟩ : ByteArray) = s := ⟨_, rfl⟩
  obtain ⟨s1, hs1⟩ : ∃ s : ByteArray, (⟨q.j.toArray⟩ : ByteArray) = s := ⟨_, rfl⟩
  obtain ⟨s2, hs2⟩ : ∃ s : ByteArray, (⟨q.a.toArray⟩ : ByteArray) = s := ⟨_, rfl⟩
  obtain ⟨s3, hs3⟩ : ∃ s : ByteArray, (⟨q.b.toArray⟩ : ByteArray) = s := ⟨_, rfl⟩
  obtain ⟨ni, hni⟩ : ∃ n, q.i.length = n := ⟨_, rfl⟩
  obtain ⟨nw, hnw⟩ : ∃ n, q.w.length = n := ⟨_, rfl⟩
  obtain ⟨ng, hng⟩ : ∃ n, q.g.length = n := ⟨_, rfl⟩
  have hcl : ∀ (a b c : Option Addr) (x y z : Nat), q.cl (.slice a q.i.length x) (.slice b q.w.length y) (.slice c q.g.length z) = #[.slice a ni x, .string s0, .string s1, .string s2, .string s3, .slice b nw y, .slice c ng z] := fun a b c x y z => by unfold Qry.cl; rw [hs0, hs1, hs2, hs3, hni, hnw, hng]
  have HCL := hid hcl
  have hb8 : ni ≤ 8 ∧ nw ≤ 64 ∧ ng ≤ 8 := ⟨by rw [← hni]; exact hin.1.2, by rw [← hnw]; exact hin.2.1.2.2, by rw [← hng]; exact hin.2.2.1.2⟩
  have hw2 : RowOk w1.heap.size w2.heap.size w2 pw nw cw 3 40 2 IsI64 := by have := rowOk_of hin.2.1.own 2 (by omega) IsI64 (fun K W cs x hx => by obtain ⟨rfl, _⟩ := hx; exact ⟨_, rfl, _, rfl⟩); rw [hnw] at this; exact this
  have hi2 : RowOk w1.heap.size w2.heap.size w2 pi ni ci 2 43 0 IsU8 := by have := rowOk_of hin.1.1 0 (by omega) IsU8 (fun K W cs x hx => by obtain ⟨v, rfl, _⟩ := hx; exact ⟨_, rfl, _, rfl⟩); rw [hni] at this; exact this
  have hg2 : RowOk w1.heap.size w2.heap.size w2 pg ng cg 1 9 0 IsStr := by have := rowOk_of hin.2.2.1.1 0 (by omega) IsStr (fun K W cs x hx => by obtain ⟨rfl, _⟩ := hx; exact ⟨_, rfl, _, rfl⟩); rw [hng] at this; exact this
  have HIS := hid (items_small hin)
  rw [hcl]
  obtain ⟨WA, hWA, hth, V3, hV3, hgA, hbV⟩ := box_any w2 27 #[.slice none 0 0, .string ⟨#[]⟩, .string ⟨#[]⟩, .string ⟨#[]⟩, .string ⟨#[]⟩, .slice none 0 0, .slice none 0 0] [.slice pi ni ci, .string s0, .string s1, .string s2, .string s3, .slice pw nw cw, .slice pg ng cg] rfl
  have HTH := hid hth
  have HV3 : Hid (WA.setCells w2.heap.size 0 (#[.slice pi ni ci, .string s0, .string s1, .string s2, .string s3, .slice pw nw cw, .slice pg ng cg] : Array Value).toList = V3) := hV3
  have HON : Hid ((#[.slice pi ni ci, .string s0, .string s1, .string s2, .string s3, .slice pw nw cw, .slice pg ng cg] : Array Value).all (·.oneCell') = true) := by show _ = _; simp [Value.oneCell']
  have hlA : w2.heap.size < V3.heap.size := (Array.getElem?_eq_some_iff.1 hgA).1
  have C4 : Hid (Calls Tryz.prog 11 #[.agg #[.slice pi ni ci, .string s0, .string s1, .string s2, .string s3, .slice pw nw cw, .slice pg ng cg]] V3 fun e w' => (∃ pj px py cj cx cy, e = .returned (.agg (q.cl (.slice pj q.i.length cj) (.slice px q.w.length cx) (.slice py q.g.length cy))) ∧ QLs (From V3.heap.size w') w' pj px py cj cx cy q) ∧ Below V3.heap.size V3 w') := by have := copy_any _ pi pw pg ci cw cg q V3 (hls.below (fun b hb => hb.2) hbV) (fun b (hb : From w1.heap.size w2 b) => Nat.lt_of_lt_of_le hb.2 hbV.size) HIS.out; rw [hcl] at this; exact this
  have HR3 : Hid (V3.rangeAt w2.heap.size 0 [.slice pi ni ci, .string s0, .string s1, .string s2, .string s3, .slice pw nw cw, .slice pg ng cg]) := fun j u hu => by rw [Nat.zero_add]; exact cell_of_row hgA (by simpa using hu)
  have HA3 := hid (And.intro hgA hlA)
  have hb12 : Below w1.heap.size w1 V3 := hb2.trans (hbV.mono hb2.size)
  have HB12 := hid hb12
  have HRW := hid (And.intro hw2 (And.intro hi2 hg2))
  have HBV := hid hbV
  have HSZ12 : Hid (w1.heap.size ≤ w2.heap.size) := hb2.size
  clear C2 hb2 hin hls hs0 hs1 hs2 hs3 hni hnw hng hcl hth hV3 hgA hbV hlA hb12 hw2 hi2 hg2 HIS
  go_wp2_with (first | (refine wpList_store_mid rfl 27 _ _ rfl w2.heap.size 0 #[.slice pi ni ci, .string s0, .string s1, .string s2, .string s3, .slice pw nw cw, .slice pg ng cg] rfl rfl HTH.out sz_qry HON.out ?_; rw [show WA.setCells w2.heap.size 0 (#[.slice pi ni ci, .string s0, .string s1, .string s2, .string s3, .slice pw nw cw, .slice pg ng cg] : Array Value).toList = V3 from HV3.out]) | (refine wpList_load_mid rfl 27 _ rfl w2.heap.size 0 rfl _ _ HR3.out Tryz.underlying27 rfl sz_qry ?_))
  refine C4.out.mono ?_
  rintro e w4 ⟨⟨pj, px, py, cj, cx, cy, rfl, hls⟩, hb4⟩
  rw [HCL.out]
  obtain ⟨WA, hWA, hth, V5, hV5, hgK, hbV5⟩ := box_any w4 27 #[.slice none 0 0, .string ⟨#[]⟩, .string ⟨#[]⟩, .string ⟨#[]⟩, .string ⟨#[]⟩, .slice none 0 0, .slice none 0 0] [.slice pj ni cj, .string s0, .string s1, .string s2, .string s3, .slice px nw cx, .slice py ng cy] rfl
  have HTH := hid hth
  have HV5 : Hid (WA.setCells w4.heap.size 0 (#[.slice pj ni cj, .string s0, .string s1, .string s2, .string s3, .slice px nw cx, .slice py ng cy] : Array Value).toList = V5) := hV5
  have HON : Hid ((#[.slice pj ni cj, .string s0, .string s1, .string s2, .string s3, .slice px nw cx, .slice py ng cy] : Array Value).all (·.oneCell') = true) := by show _ = _; simp [Value.oneCell']
  have hlK : w4.heap.size < V5.heap.size := (Array.getElem?_eq_some_iff.1 hgK).1
  have hb35 : Below V3.heap.size V3 V5 := hb4.trans (hbV5.mono hb4.size)
  have hb15 : Below w1.heap.size w1 V5 := HB12.out.trans (hb35.mono HB12.out.size)
  have hb25 : Below w2.heap.size w2 V5 := HBV.out.trans (hb35.mono HBV.out.size)
  have HLK : Hid (QLs (From V3.heap.size w4) V5 pj px py cj cx cy q) := hls.below (fun b hb => hb.2) hbV5
  have HSZ : Hid (w1.heap.size ≤ w2.heap.size ∧ w2.heap.size < V3.heap.size ∧ V3.heap.size ≤ w4.heap.size ∧ w4.heap.size < V5.heap.size) := ⟨HSZ12.out, HA3.out.2, hb4.size, hlK⟩
  have HBA : Hid (V5.heap[w2.heap.size]? = some (.cells #[.slice pi ni ci, .string s0, .string s1, .string s2, .string s3, .slice pw nw cw, .slice pg ng cg] 27 (0, 0)) ∧ V5.heap[w4.heap.size]? = some (.cells #[.slice pj ni cj, .string s0, .string s1, .string s2, .string s3, .slice px nw cx, .slice py ng cy] 27 (0, 0))) := ⟨(hb35.block _ HA3.out.2).trans HA3.out.1, hgK⟩
  have hbk : ∀ (te : TypeId) (b : Nat) (cur : Array Value), w2.heap[b]? = some (Obj.cells cur te (0, 0)) → V5.heap[b]? = w2.heap[b]? := fun te b cur hh => hb25.block b (Array.getElem?_eq_some_iff.1 hh).1
  have HW5 := hid (HRW.out.1.kept (hbk 40))
  have HI5 := hid (HRW.out.2.1.kept (hbk 43))
  have HGR5 := hid (HRW.out.2.2.kept (hbk 9))
  have HB15 := hid hb15
  have m5 := cell_of_row (k := 5) (v := .slice pw nw cw) HBA.out.1 rfl
  clear C4 hb4 hls hth hV5 hgK hbV5 hlK hb35 hb15 hb25 hbk HR3 HA3 HB12 HRW HBV HSZ12
  go_wp2_with (first | (refine wpList_store_mid rfl 27 _ _ rfl w4.heap.size 0 #[.slice pj ni cj, .string s0, .string s1, .string s2, .string s3, .slice px nw cx, .slice py ng cy] rfl rfl HTH.out sz_qry HON.out ?_; rw [show WA.setCells w4.heap.size 0 (#[.slice pj ni cj, .string s0, .string s1, .string s2, .string s3, .slice px nw cx, .slice py ng cy] : Array Value).toList = V5 from HV5.out]))
  clear m5 hWA HTH HV5 HON
  go_loopg [26] nw (fun gf sx wx => ∃ (i : Nat), sx = .int .i64 i ∧ i ≤ nw ∧ nw ≤ i + gf ∧ Hid (Kept (fun b => b < w1.heap.size ∨ w2.heap.size ≤ b) V5 wx) ∧ Hid (RowOk w1.heap.size w2.heap.size wx pw nw cw 3 40 2 IsI64) ∧ Hid (RowOk w1.heap.size w2.heap.size wx pi ni ci 2 43 0 IsU8) ∧ Hid (RowOk w1.heap.size w2.heap.size wx pg ng cg 1 9 0 IsStr))
  case atStart => exact ⟨0, rfl, by omega, by omega, Kept.refl _ _, HW5, HI5, HGR5⟩
  case round =>
    clear HW5 HI5 HGR5 
    obtain ⟨i, rfl, hi1, hgf, HK, HWx, HIx, HGx⟩ := hrel
    have hA : wr.heap[w2.heap.size]? = some (.cells #[.slice pi ni ci, .string s0, .string s1, .string s2, .string s3, .slice pw nw cw, .slice pg ng cg] 27 (0, 0)) := (HK.out.block _ (.inr (Nat.le_refl _))).trans HBA.out.1
    by_cases hi : i < nw
    · obtain ⟨g', rfl⟩ : ∃ g', gk = g' + 1 := ⟨gk - 1, by omega⟩
      have hrow : ∃ g cur, pw = some ⟨g, 0, none⟩ ∧ (w1.heap.size ≤ g ∧ g < w2.heap.size) ∧ wr.heap[g]? = some (.cells cur 40 (0, 0)) ∧ ∀ j, j < nw → ∃ v, cur[j * 3 + 2]? = some v ∧ IsI64 v := by
        rcases HWx.out with h0 | h0
        · omega
        · exact h0
      obtain ⟨g, cur, hp, hlo, hgc, hr⟩ := hrow
      subst hp
      obtain ⟨v, hv, u, rfl⟩ := hr i hi
      have cv : wr.cell? ⟨g, i * 3 + 2, none⟩ = some (.int .i64 u) := cell_of_row hgc hv
      have fv : wr.frozen? ⟨g, i * 3 + 2, none⟩ = false := frozen_zero hgc _
      have ma := cell_of_row (k := 5) (v := .slice (some ⟨g, 0, none⟩) nw cw) hA rfl
      have HSET : Hid (∀ v, IsI64 v → (Kept (fun b => b < w1.heap.size ∨ w2.heap.size ≤ b) V5 (wr.setCell ⟨g, i * 3 + 2, none⟩ v)) ∧ (RowOk w1.heap.size w2.heap.size (wr.setCell ⟨g, i * 3 + 2, none⟩ v) (some ⟨g, 0, none⟩) nw cw 3 40 2 IsI64) ∧ (RowOk w1.heap.size w2.heap.size (wr.setCell ⟨g, i * 3 + 2, none⟩ v) pi ni ci 2 43 0 IsU8) ∧ (RowOk w1.heap.size w2.heap.size (wr.setCell ⟨g, i * 3 + 2, none⟩ v) pg ng cg 1 9 0 IsStr)) := fun v hv => by
        obtain ⟨h1, h2, h3⟩ := row_set (lo := w1.heap.size) (hi := w2.heap.size) (c := cw) hgc hlo hr i v hv
        refine ⟨HK.out.trans (h2.less fun b hb => by omega), h1, HIx.out.kept (fun b cur2 hh => h2.block b (fun e => by rw [e, hgc] at hh; simp at hh)), HGx.out.kept (fun b cur2 hh => h2.block b (fun e => by rw [e, hgc] at hh; simp at hh))⟩
      have z0 : (0 : Int) ≤ (i : Int) := by omega
      have z1 : (i : Int) < (nw : Int) := by omega
      clear hgc hr hv hA HK HWx HIx HGx
      go_wp2_with fail
      obtain ⟨r1, r2, r3, r4⟩ := HSET.out _ ⟨_, rfl⟩
      go_roundg g'
      case measure => omega
      case rel => exact ⟨i + 1, by go_num, by omega, by omega, r1, r2, r3, r4⟩
    · have z1 : ¬ (i : Int) < (nw : Int) := by omega
      obtain ⟨wa, hwa⟩ : ∃ wa, wa = wr := ⟨_, rfl⟩
      subst hwa
      have m0 := cell_of_row (k := 0) (v := .slice pi ni ci) hA rfl
      have HK9 := HK
      have HI9 := HIx
      have HGR9 := HGx
      clear HK HIx HGx HWx hA hi hi1 hgf
      go_wp2_with fail
      clear m0 z1
      go_loopg [42] ni (fun gf sx wx => ∃ (i : Nat), sx = .int .i64 i ∧ i ≤ ni ∧ ni ≤ i + gf ∧ Hid (Kept (fun b => b < w1.heap.size ∨ w2.heap.size ≤ b) V5 wx) ∧ Hid (RowOk w1.heap.size w2.heap.size wx pi ni ci 2 43 0 IsU8) ∧ Hid (RowOk w1.heap.size w2.heap.size wx pg ng cg 1 9 0 IsStr))
      case atStart => exact ⟨0, rfl, by omega, by omega, HK9, HI9, HGR9⟩
      case round =>
        clear HI9 HGR9 HK9
        obtain ⟨i, rfl, hi1, hgf, HK, HIx, HGx⟩ := hrel
        have hA : wr.heap[w2.heap.size]? = some (.cells #[.slice pi ni ci, .string s0, .string s1, .string s2, .string s3, .slice pw nw cw, .slice pg ng cg] 27 (0, 0)) := (HK.out.block _ (.inr (Nat.le_refl _))).trans HBA.out.1
        by_cases hi : i < ni
        · obtain ⟨g', rfl⟩ : ∃ g', gk = g' + 1 := ⟨gk - 1, by omega⟩
          have hrow : ∃ g cur, pi = some ⟨g, 0, none⟩ ∧ (w1.heap.size ≤ g ∧ g < w2.heap.size) ∧ wr.heap[g]? = some (.cells cur 43 (0, 0)) ∧ ∀ j, j < ni → ∃ v, cur[j * 2 + 0]? = some v ∧ IsU8 v := by
            rcases HIx.out with h0 | h0
            · omega
            · exact h0
          obtain ⟨g, cur, hp, hlo, hgc, hr⟩ := hrow
          subst hp
          obtain ⟨v, hv, u, rfl⟩ := hr i hi
          have cv : wr.cell? ⟨g, i * 2 + 0, none⟩ = some (.int .u8 u) := cell_of_row hgc hv
          have fv : wr.frozen? ⟨g, i * 2 + 0, none⟩ = false := frozen_zero hgc _
          have ma := cell_of_row (k := 0) (v := .slice (some ⟨g, 0, none⟩) ni ci) hA rfl
          have HSET : Hid (∀ v, IsU8 v → (Kept (fun b => b < w1.heap.size ∨ w2.heap.size ≤ b) V5 (wr.setCell ⟨g, i * 2 + 0, none⟩ v)) ∧ (RowOk w1.heap.size w2.heap.size (wr.setCell ⟨g, i * 2 + 0, none⟩ v) (some ⟨g, 0, none⟩) ni ci 2 43 0 IsU8) ∧ (RowOk w1.heap.size w2.heap.size (wr.setCell ⟨g, i * 2 + 0, none⟩ v) pg ng cg 1 9 0 IsStr)) := fun v hv => by
            obtain ⟨h1, h2, h3⟩ := row_set (lo := w1.heap.size) (hi := w2.heap.size) (c := ci) hgc hlo hr i v hv
            refine ⟨HK.out.trans (h2.less fun b hb => by omega), h1, HGx.out.kept (fun b cur2 hh => h2.block b (fun e => by rw [e, hgc] at hh; simp at hh))⟩
          have z0 : (0 : Int) ≤ (i : Int) := by omega
          have z1 : (i : Int) < (ni : Int) := by omega
          clear hgc hr hv hA HK HIx HGx
          have cv2 : wr.cell? ⟨g, i * 2, none⟩ = some (.int .u8 u) := cv
          have fv2 : wr.frozen? ⟨g, i * 2, none⟩ = false := fv
          go_wp2_with fail
          obtain ⟨r1, r2, r3⟩ := HSET.out _ ⟨_, rfl⟩
          go_roundg g'
          case measure => omega
          case rel => exact ⟨i + 1, by go_num, by omega, by omega, r1, r2, r3⟩
        · have z1 : ¬ (i : Int) < (ni : Int) := by omega
          obtain ⟨wb, hwb⟩ : ∃ wb, wb = wr := ⟨_, rfl⟩
          subst hwb
          have m6 := cell_of_row (k := 6) (v := .slice pg ng cg) hA rfl
          have HK8 := HK
          have HGR8 := HGx
          clear HK HIx HGx hA hi hi1 hgf
          go_wp2_with fail
          clear m6 z1
          go_loopg [58] ng (fun gf sx wx => ∃ (i : Nat), sx = .int .i64 i ∧ i ≤ ng ∧ ng ≤ i + gf ∧ Hid (Kept (fun b => b < w1.heap.size ∨ w2.heap.size ≤ b) V5 wx) ∧ Hid (RowOk w1.heap.size w2.heap.size wx pg ng cg 1 9 0 IsStr))
          case atStart => exact ⟨0, rfl, by omega, by omega, HK8, HGR8⟩
          case round =>
            clear HGR8 HK8
            obtain ⟨i, rfl, hi1, hgf, HK, HGx⟩ := hrel
            have hA : wr.heap[w2.heap.size]? = some (.cells #[.slice pi ni ci, .string s0, .string s1, .string s2, .string s3, .slice pw nw cw, .slice pg ng cg] 27 (0, 0)) := (HK.out.block _ (.inr (Nat.le_refl _))).trans HBA.out.1
            by_cases hi : i < ng
            · obtain ⟨g', rfl⟩ : ∃ g', gk = g' + 1 := ⟨gk - 1, by omega⟩
              have hrow : ∃ g cur, pg = some ⟨g, 0, none⟩ ∧ (w1.heap.size ≤ g ∧ g < w2.heap.size) ∧ wr.heap[g]? = some (.cells cur 9 (0, 0)) ∧ ∀ j, j < ng → ∃ v, cur[j * 1 + 0]? = some v ∧ IsStr v := by
                rcases HGx.out with h0 | h0
                · omega
                · exact h0
              obtain ⟨g, cur, hp, hlo, hgc, hr⟩ := hrow
              subst hp
              obtain ⟨v, hv, u, rfl⟩ := hr i hi
              have cv : wr.cell? ⟨g, i * 1 + 0, none⟩ = some (.string u) := cell_of_row hgc hv
              have fv : wr.frozen? ⟨g, i * 1 + 0, none⟩ = false := frozen_zero hgc _
              have ma := cell_of_row (k := 6) (v := .slice (some ⟨g, 0, none⟩) ng cg) hA rfl
              have HSET : Hid (∀ v, IsStr v → (Kept (fun b => b < w1.heap.size ∨ w2.heap.size ≤ b) V5 (wr.setCell ⟨g, i * 1 + 0, none⟩ v)) ∧ (RowOk w1.heap.size w2.heap.size (wr.setCell ⟨g, i * 1 + 0, none⟩ v) (some ⟨g, 0, none⟩) ng cg 1 9 0 IsStr)) := fun v hv => by
                obtain ⟨h1, h2, h3⟩ := row_set (lo := w1.heap.size) (hi := w2.heap.size) (c := cg) hgc hlo hr i v hv
                refine ⟨HK.out.trans (h2.less fun b hb => by omega), h1⟩
              have z0 : (0 : Int) ≤ (i : Int) := by omega
              have z1 : (i : Int) < (ng : Int) := by omega
              clear hgc hr hv hA HK HGx
              have e1 : i * 1 + 0 = i := by omega
              rw [e1] at cv fv HSET
              go_wp2_with fail
              obtain ⟨r1, r2⟩ := HSET.out _ ⟨_, rfl⟩
              go_roundg g'
              case measure => omega
              case rel => exact ⟨i + 1, by go_num, by omega, by omega, r1, r2⟩
            · have z1 : ¬ (i : Int) < (ng : Int) := by omega
              have hb19 : Below w1.heap.size w1 wr := by
                have h1 := HB15.out
                have h2 := HK.out
                exact ⟨h2.os.trans h1.os, h2.tape.trans h1.tape, h2.output.trans h1.output, by have := h1.size; have := h2.size; omega, fun b hb => (h2.block b (.inl hb)).trans (h1.block b hb)⟩
              obtain ⟨wc, hwc⟩ : ∃ wc, wc = wr := ⟨_, rfl⟩
              subst hwc
              have hG9 := HG1.out.below hb19
              have C7 : Hid (Calls Tryz.prog 7 #[.string s] wc fun e w' => OutP wc (q, y, a) e w') := by have := parse_any s wc hs hG9.g2.1 hG9.gw hG9.h10; rw [HPQ.out] at this; exact this
              have HB19 := hid hb19
              have HLK9 : Hid (QLs (From V3.heap.size w4) wc pj px py cj cx cy q) := HLK.out.kept (HK.out.less fun b (hb : From V3.heap.size w4 b) => by have := hb.1; have := HSZ.out; omega)
              have HK9b : Hid (wc.heap[w4.heap.size]? = some (.cells #[.slice pj ni cj, .string s0, .string s1, .string s2, .string s3, .slice px nw cx, .slice py ng cy] 27 (0, 0)) ∧ w4.heap.size < wc.heap.size) := ⟨(HK.out.block _ (by have := HSZ.out; omega)).trans HBA.out.2, by have := HK.out.size; have := HSZ.out; omega⟩
              clear HK HGx hA hi hi1 hgf hb19 hG9
              go_wp2_with fail
              refine C7.out.mono ?_
              rintro e w10 ⟨v, rfl, ⟨vi, vw, vg, rfl, hin⟩, hb10⟩
              obtain ⟨ri, di, rw, dw, rg, dg, rfl, rfl, rfl, hls⟩ := hin.ls
              rw [HCL.out]
              obtain ⟨WA, hWA, hth, V11, hV11, hgB, hbV⟩ := box_any w10 27 #[.slice none 0 0, .string ⟨#[]⟩, .string ⟨#[]⟩, .string ⟨#[]⟩, .string ⟨#[]⟩, .slice none 0 0, .slice none 0 0] [.slice ri ni di, .string s0, .string s1, .string s2, .string s3, .slice rw nw dw, .slice rg ng dg] rfl
              have HTH := hid hth
              have HV11 : Hid (WA.setCells w10.heap.size 0 (#[.slice ri ni di, .string s0, .string s1, .string s2, .string s3, .slice rw nw dw, .slice rg ng dg] : Array Value).toList = V11) := hV11
              have HON : Hid ((#[.slice ri ni di, .string s0, .string s1, .string s2, .string s3, .slice rw nw dw, .slice rg ng dg] : Array Value).all (·.oneCell') = true) := by show _ = _; simp [Value.oneCell']
              have hbc : Below wc.heap.size wc V11 := hb10.trans (hbV.mono hb10.size)
              have HRB : Hid (V11.rangeAt w10.heap.size 0 [.slice ri ni di, .string s0, .string s1, .string s2, .string s3, .slice rw nw dw, .slice rg ng dg]) := fun j u hu => by rw [Nat.zero_add]; exact cell_of_row hgB (by simpa using hu)
              have HRK : Hid (V11.rangeAt w4.heap.size 0 [.slice pj ni cj, .string s0, .string s1, .string s2, .string s3, .slice px nw cx, .slice py ng cy]) := fun j u hu => by rw [Nat.zero_add]; exact cell_of_row ((hbc.block _ HK9b.out.2).trans HK9b.out.1) (by simpa using hu)
              have C8 : Hid (Calls Tryz.prog 8 #[.agg #[.slice ri ni di, .string s0, .string s1, .string s2, .string s3, .slice rw nw dw, .slice rg ng dg], .agg #[.slice pj ni cj, .string s0, .string s1, .string s2, .string s3, .slice px nw cx, .slice py ng cy]] V11 fun e w' => e = .returned (.bool true) ∧ Below V11.heap.size V11 w') := by
                have := same_eq (From wc.heap.size w10) (From V3.heap.size w4) ri rw rg pj px py di dw dg cj cx cy q V11 (hls.below (fun b hb => hb.2) hbV) (HLK9.out.below (fun b (hb : From V3.heap.size w4 b) => by have := hb.2; have := HK9b.out.2; omega) hbc) (fun b (hb : From wc.heap.size w10 b) => Nat.lt_of_lt_of_le hb.2 hbV.size) (fun b (hb : From V3.heap.size w4 b) => by have := hb.2; have := HK9b.out.2; have := hbc.size; omega)
                rw [HCL.out, HCL.out] at this
                exact this
              have HBF : Hid (Below w.heap.size w V11) := by
                have h1 := HB19.out.trans (hbc.mono HB19.out.size)
                exact HB1.out.trans (h1.mono HB1.out.size)
              clear C7 hin hls hb10 hth hV11 hgB hbV hbc HK9b HLK9 HB19 HPQ HG1 HLK HSZ HBA HB15 HCL HB1
              go_wp2_with (first | (refine wpList_store_mid rfl 27 _ _ rfl w10.heap.size 0 #[.slice ri ni di, .string s0, .string s1, .string s2, .string s3, .slice rw nw dw, .slice rg ng dg] rfl rfl HTH.out sz_qry HON.out ?_; rw [show WA.setCells w10.heap.size 0 (#[.slice ri ni di, .string s0, .string s1, .string s2, .string s3, .slice rw nw dw, .slice rg ng dg] : Array Value).toList = V11 from HV11.out]) | (refine wpList_load_midH (by rfl) 27 _ rfl w10.heap.size 0 rfl _ _ HRB.out Tryz.underlying27 rfl sz_qry ?_) | (refine wpList_load_midH (by rfl) 27 _ rfl w4.heap.size 0 rfl _ _ HRK.out Tryz.underlying27 rfl sz_qry ?_))
              refine C8.out.mono ?_
              rintro e w12 ⟨rfl, hb12⟩
              have HBE : Hid (Below w.heap.size w w12) := HBF.out.trans (hb12.mono HBF.out.size)
              clear C8 hb12 HBF HRB HRK
              go_wp2_with fail
              go_ret
              exact ⟨rfl, HBE.out⟩
end Go.Proofs.YthpcpaggbhgcoaaGreatDoor
