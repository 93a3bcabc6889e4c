/- A stack of kinds, in new memory. No walk stands in this text. -/
import Derived.Test.YtfifphfihdhlaaaGreatDoorBhBiBj
import Derived.Test.YtfifphfihdhlaaaGreatDoorQbTk
set_option maxRecDepth 100000
set_option maxHeartbeats 32000000
namespace Go.Proofs.YtfifphfihdhlaaaGreatDoor.Bd
open Tryz
open Go.Shelf Go.RowKit Go.Lib Go.Sort
set_option linter.unusedVariables false
set_option linter.unusedSimpArgs false
def kVals (l : List Nat) : List Value := l.map fun (k : Nat) => Value.int .u8 (k : Int)
def StK (base : Nat) (W : World) (v : Value) (l : List Nat) : Prop :=
 (∀ k ∈ l, k < 256) ∧ l.length ≤ 64 ∧ ((v = .slice none 0 0 ∧ l = []) ∨ ∃ g c cur, v = .slice (some ⟨g, 0, none⟩) l.length c ∧ (l.length ≤ c ∧ 0 < l.length) ∧ base ≤ g ∧ W.heap[g]? = some (.cells cur 43 (0, 0)) ∧ cur.toList.take l.length = kVals l)
theorem StK.later {base : Nat} {W W' : World} {v : Value} {l : List Nat} (h : StK base W v l) (hb : Bl W W') : StK base W' v l := by
 obtain ⟨h1, h2, h3 | ⟨g, c, cur, e, hc, hg, hh, ht⟩⟩ := h
 · exact ⟨h1, h2, .inl h3⟩
 · exact ⟨h1, h2, .inr ⟨g, c, cur, e, hc, hg, (hb.block _ (gsi hh).1).trans hh, ht⟩⟩
theorem kVals_at (l : List Nat) (i : Nat) (h : i < l.length) : (kVals l)[i]? = some (.int .u8 (l[i] : Int)) := by simp [kVals, h]
theorem StK.list {base : Nat} {W : World} {g n c : Nat} {l : List Nat} (h : StK base W (.slice (some ⟨g, 0, none⟩) n c) l) (r m d : Nat) (hr : r + m = l.length) (hd : m ≤ d) : ListIs rKnd 1 1 (From base W) W (.slice (some ⟨g, r, none⟩) (l.drop r).length d) (l.drop r) := by
 obtain ⟨h1, h2, ⟨e, _⟩ | ⟨g', c', cur, e, ⟨hc, hc0⟩, hg, hh, ht⟩⟩ := h
 · cases e
 cases e
 refine ⟨_, d, rfl, ⟨by rw [List.length_drop]; omega, by rw [List.length_drop]; omega⟩, fun h0 => ⟨g, r, rfl, ⟨hg, (gsi hh).1⟩, fun j hj => ?_⟩⟩
 rw [List.length_drop] at hj
 refine ⟨[.int .u8 (l[r + j] : Int)], rfl, fun i u hu => ?_, ?_⟩
 · cases i with
   | succ i => simp at hu
   | zero =>
    simp only [List.getElem?_cons_zero, Option.some.injEq] at hu
    subst hu
    rw [Nat.mul_one, Nat.add_zero]
    have := kVals_at l (r + j) (by omega)
    rw [← ht, List.getElem?_take_of_lt (by omega)] at this
    exact cell_of_row hh (by simpa using this)
 · rw [List.getElem_drop]
   exact ⟨rfl, h1 _ (List.getElem_mem _)⟩
theorem ListIs.nil {α : Type} {rel : Rel α} {size bytes : Nat} {K : Nat → Prop} {W : World} (p : Option Addr) (c : Nat) : ListIs rel size bytes K W (.slice p ([] : List α).length c) ([] : List α) :=
 ⟨p, c, rfl, ⟨by simp, by simp⟩, fun h => absurd h (by simp)⟩
def cutK (v : Value) (r : Nat) : Value :=
 match v with
 | .slice (some a) _ _ => .slice (some a) r r
 | v => v
theorem info43 : ∃ i0, prog.info? 43 = some i0 ∧ i0.zero = some (.int .u8 0) ∧ i0.size = 1 ∧ i0.bytes = 1 := by
 have h1 : (prog.info? 43).bind (·.zero) = some (.int .u8 0) := by kernel_rfl
 have h2 : (prog.info? 43).map (fun i => (i.size, i.bytes)) = some (1, 1) := by kernel_rfl
 cases h : prog.info? 43 with
 | none => rw [h] at h2; cases h2
 | some i0 =>
  rw [h] at h1 h2
  have h3 := Option.some.inj h2
  exact ⟨i0, rfl, h1, (Prod.mk.inj h3).1, (Prod.mk.inj h3).2⟩
theorem StK.tail {base : Nat} {W : World} {p : Option Addr} {n c : Nat} {l : List Nat} (h : StK base W (.slice p n c) l) (r t : Nat) (hr : r + t = l.length) : ∃ p2 d, sliced p r n c 1 = .slice p2 t d ∧ ∀ V, Bl W V → ListIs rKnd 1 1 (From base W) V (.slice p2 (l.drop r).length d) (l.drop r) := by
 have hd : (l.drop r).length = t := by rw [List.length_drop]; omega
 obtain ⟨h1, h2, ⟨e, rfl⟩ | ⟨g, c', cur, e, ⟨hc, hc0⟩, hg, hh, ht⟩⟩ := h
 · cases e
   have hr0 : r = 0 := by simp at hr; omega
   have ht0 : t = 0 := by simp at hr; omega
   subst hr0 ht0
   exact ⟨none, 0, by simp [sliced], fun V _ => ListIs.nil none 0⟩
 · cases e
   have h : StK base W (.slice (some ⟨g, 0, none⟩) l.length c) l := ⟨h1, h2, .inr ⟨g, c, cur, rfl, ⟨hc, hc0⟩, hg, hh, ht⟩⟩
   by_cases hrc : c = r
   · have ht0 : t = 0 := by omega
     have hnil : l.drop r = [] := List.eq_nil_of_length_eq_zero (by omega)
     refine ⟨some ⟨g, 0, none⟩, 0, ?_, fun V _ => by rw [hnil]; exact ListIs.nil _ _⟩
     unfold sliced
     rw [if_pos hrc, ht0, show l.length - r = 0 by omega, show c - r = 0 by omega]
   · refine ⟨some ⟨g, r, none⟩, c - r, ?_, fun V hV => (h.list r t (c - r) hr (by omega)).later mKnd From.lt hV⟩
     unfold sliced
     rw [if_neg hrc, show l.length - r = t by omega]
     simp [addr_add]
theorem StK.cut {base : Nat} {W : World} {p : Option Addr} {n c : Nat} {l : List Nat} (h : StK base W (.slice p n c) l) (r : Nat) (hr : r ≤ l.length) : sliced p 0 r r 1 = cutK (.slice p n c) r := by
 obtain ⟨h1, h2, ⟨e, rfl⟩ | ⟨g, c', cur, e, ⟨hc, hc0⟩, hg, hh, ht⟩⟩ := h
 · cases e
   have hr0 : r = 0 := by simpa using hr
   subst hr0
   simp [sliced, cutK]
 · cases e
   unfold sliced cutK
   split <;> simp [addr_add]
theorem StK.push {base : Nat} {W : World} {v : Value} {l : List Nat} (h : StK base W v l) (r : Nat) (hr : r ≤ l.length) (hr64 : r < 64) (hbase : base ≤ W.heap.size) (k : Nat) (hk : k < 256) :
 ∃ v' X2, (Builtin.append_ #[30, 30] 30 #[cutK v r, .slice (some ⟨W.heap.size, 0, none⟩) 1 1]).run prog (W.alloc (.cells #[.int .u8 (k : Int)] 43)) = .ok v' X2 ∧ StK base X2 v' (l.take r ++ [k]) ∧ Bl W X2 := by
 obtain ⟨i0, hi, hz, hs, hby⟩ := info43
 have hg1 : (W.alloc (.cells #[.int .u8 (k : Int)] 43)).heap[W.heap.size]? = some (.cells #[.int .u8 (k : Int)] 43 (0, 0)) := heap_alloc_new W _
 have hnew : ∀ (j : Nat) (u : Value), ([.int .u8 (k : Int)] : List Value)[j]? = some u → (W.alloc (.cells #[.int .u8 (k : Int)] 43)).cell? ((⟨W.heap.size, 0, none⟩ : Addr).add j) = some u := fun j u hu => by
  rw [addr_add, Nat.zero_add]
  exact cell_of_row hg1 (by simpa using hu)
 have hB : Bl W (W.alloc (.cells #[.int .u8 (k : Int)] 43)) := below_alloc _ _
 have hs1 : (W.alloc (.cells #[.int .u8 (k : Int)] 43)).heap.size = W.heap.size + 1 := by simp
 generalize hX1 : W.alloc (.cells #[.int .u8 (k : Int)] 43) = X1 at *
 have hbX : base ≤ X1.heap.size := by omega
 have hfin : ∀ (cells : Array Value) (n : Nat), cells.toList.take (r + 1) = kVals (l.take r ++ [k]) → r + 1 ≤ n → StK base (X1.drew.alloc (.cells cells 43)) (.slice (some ⟨X1.heap.size, 0, none⟩) (r + 1) n) (l.take r ++ [k]) ∧ Bl W (X1.drew.alloc (.cells cells 43)) := fun cells n ht hn => by
  have hlen : (l.take r ++ [k]).length = r + 1 := by simp; omega
  refine ⟨⟨fun x hx => ?_, by omega, .inr ⟨X1.heap.size, n, cells, by rw [hlen], ⟨by omega, by omega⟩, hbX, heap_alloc_new X1.drew _, by rw [hlen]; exact ht⟩⟩, hB.drew.trans ((below_alloc X1.drew (.cells cells 43)).mono (by show _ ≤ X1.heap.size; omega))⟩
  rcases List.mem_append.1 hx with hx | hx
  · exact h.1 x (List.mem_of_mem_take hx)
  · simp at hx; subst hx; exact hk
 obtain ⟨h1, h2, ⟨rfl, rfl⟩ | ⟨g, c, cur, rfl, hc, hg, hh, ht⟩⟩ := h
 · have hr0 : r = 0 := by simpa using hr
   subst hr0
   have hrun := run_append_nil (P := prog) X1 30 30 43 i0 _ underlying30 hi hz ⟨W.heap.size, 0, none⟩ 1 1 [.int .u8 (k : Int)] (by rw [hs]; rfl) hnew (by omega) (by omega) (by rw [hby]; omega)
   refine ⟨_, _, hrun, ?_⟩
   exact hfin _ _ (by simp [kVals]) (grownCap_ge X1 1 0 43)
 · have hg' : X1.heap[g]? = some (.cells cur 43 (0, 0)) := (hB.block _ (gsi hh).1).trans hh
   have hole : (kVals (l.take r)).length = r * i0.size := by rw [hs]; simp [kVals]; omega
   have htk : cur.toList.take r = kVals (l.take r) := by
    have := congrArg (List.take r) ht
    rw [List.take_take, Nat.min_eq_left hr] at this
    rw [this]; simp [kVals, List.map_take]
   have holds : ∀ (j : Nat) (u : Value), (kVals (l.take r))[j]? = some u → X1.cell? ((⟨g, 0, none⟩ : Addr).add j) = some u := fun j u hu => by
    rw [addr_add, Nat.zero_add]
    have hj := (List.getElem?_eq_some_iff.1 hu).1
    rw [hole, hs] at hj
    rw [← htk, List.getElem?_take_of_lt (by omega)] at hu
    exact cell_of_row hg' (by simpa using hu)
   have hrun := run_append_grow (P := prog) X1 30 30 43 i0 _ underlying30 hi hz ⟨g, 0, none⟩ r r (kVals (l.take r)) hole holds ⟨W.heap.size, 0, none⟩ 1 1 [.int .u8 (k : Int)] (by rw [hs]; rfl) hnew (by omega) (by omega) (growslice_fits (by omega) (by rw [hby]; omega))
   refine ⟨_, _, hrun, ?_⟩
   refine hfin _ _ ?_ (grownCap_ge X1 (r + 1) r 43)
   have e1 : (kVals (l.take r)).length = r := by rw [hole, hs, Nat.mul_one]
   simp only [Array.toList_append, List.append_assoc]
   rw [show kVals (l.take r ++ [k]) = kVals (l.take r) ++ [.int .u8 (k : Int)] by simp [kVals], ← List.append_assoc]
   exact List.take_left' (by simp [e1])
theorem size43 (w : World) : (sizeOf (prog.elem 30)).run prog w = .ok 1 w := by
 obtain ⟨i0, hi, _, hs, _⟩ := info43
 have he : prog.elem 30 = 43 := by kernel_rfl
 rw [he]
 simp [sizeOf, typeInfo, hi, hs]
theorem hu30 : prog.underlying 30 = some (.slice (prog.elem 30)) := by kernel_rfl
theorem yieldsIf_tail {ops : Array Oper} {S : World → Prop} {op : Oper} {a : Act} (hw : Region.wanted op (yielded ops a.tmps) = true) (x lo : Operand) (ho : op.op = .slice 30 x (some lo) none none) (p : Option Addr) (n c r : Nat) (hx : a.eval x = .slice p n c) (hl : a.eval lo = .int .i64 (r : Int)) (hr : r ≤ n) {tv : Value} (ht : sliced p r n c 1 = tv) : YieldsIf prog ops S op tv a :=
 .inl ⟨hw, fun w _ => by
  unfold execOp
  simp only [ho, hx, hl, Option.map_some, Option.map_none, run_slice_l (P := prog) w 30 p n c hu30 .i64 (r : Int) (by omega) (by omega), run_sliceAt_slice (P := prog) w 30 _ _ _ _ hu30, size43 w, Result.andThen, Int.toNat_natCast, ht, Sem.run_bind, Sem.run_pure, Result.andThen_ok]⟩
theorem yieldsIf_cut {ops : Array Oper} {S : World → Prop} {op : Oper} {a : Act} (hw : Region.wanted op (yielded ops a.tmps) = true) (x hi mx : Operand) (ho : op.op = .slice 30 x none (some hi) (some mx)) (p : Option Addr) (n c r : Nat) (hx : a.eval x = .slice p n c) (hh : a.eval hi = .int .i64 (r : Int)) (hm : a.eval mx = .int .i64 (r : Int)) (hr : r ≤ c) {tv : Value} (ht : sliced p 0 r r 1 = tv) : YieldsIf prog ops S op tv a :=
 .inl ⟨hw, fun w _ => by
  unfold execOp
  simp only [ho, hx, hh, hm, Option.map_some, Option.map_none, run_slice_hm (P := prog) w 30 p n c hu30 .i64 .i64 (r : Int) (r : Int) (by omega) (by omega) (by omega), run_sliceAt_slice (P := prog) w 30 _ _ _ _ hu30, size43 w, Result.andThen, Int.toNat_natCast, ht, Sem.run_bind, Sem.run_pure, Result.andThen_ok]⟩
attribute [local go_sem ↓] Go.wp_at_zero Go.wp_at_succ
theorem right_at (l : List Stp) (i : Nat) (h : i < l.length) (v : Nat) (hr : rightL ((l.map withN).drop i) v = true) : takesP (withN l[i]) = (takesN l[i].k, true) ∧ takesN l[i].k ≤ v ∧ rightL ((l.map withN).drop (i + 1)) (v + 1 - takesN l[i].k) = true := by
 rw [List.drop_eq_getElem_cons (by simpa using h), List.getElem_map] at hr
 unfold rightL at hr
 split at hr
 · cases hr
 · rename_i hc
   have h2 : (takesP (withN l[i])).2 = true := by
    cases e : (takesP (withN l[i])).2 with
    | true => rfl
    | false => exact absurd (.inl e) hc
   have h1 : takesP (withN l[i]) = (takesN l[i].k, true) := by
    unfold takesP at h2 ⊢
    split
    · rw [withN_k]
    · rename_i hf; rw [if_neg hf] at h2; cases h2
   rw [h1] at hr hc
   refine ⟨h1, ?_, hr⟩
   simp only [not_or] at hc
   omega
theorem comes_at (cols : List Clm) (l : List Stp) (i : Nat) (h : i < l.length) (st : List Nat) : comesGo cols (l.drop i) st = if fitsP l[i].k (st.drop (st.length - takesN l[i].k)) then comesGo cols (l.drop (i + 1)) (st.take (st.length - takesN l[i].k) ++ [kindS cols l[i]]) else (0, 5) := by
 rw [List.drop_eq_getElem_cons h]
 rfl
theorem clm_lt {K : Nat → Prop} {w : World} {v : Value} {l : List Clm} (h : ListIs rClm 2 24 K w v l) : ∀ c ∈ l, c.k < 256 := fun x hx => by
 obtain ⟨j, hj, rfl⟩ := List.getElem_of_mem hx
 obtain ⟨q, c, rfl, _, hp⟩ := h
 obtain ⟨b, o, rfl, _, hc⟩ := hp (by omega)
 obtain ⟨cs, _, _, _, _, hk⟩ := hc j hj
 exact hk
theorem comesTo_any (K Kc : Nat → Prop) (q qc : Option Addr) (c cc : Nat) (l : List Stp) (cols : List Clm) (w : World) (h : ListIs rStpW 3 32 K w (.slice q l.length c) l) (hcl : ListIs rClm 2 24 Kc w (.slice qc cols.length cc) cols) (hK : ∀ b, K b → b < w.heap.size) (hKc : ∀ b, Kc b → b < w.heap.size) (hG : GW w) (hr : rightP (l.map withN) = true) (ho : l.any (outP cols.length) = false) :
 Calls prog 39 #[.slice q l.length c, .slice qc cols.length cc] w fun e w' => e = .returned (.tuple #[.int .u8 ((comesGo cols l []).1 : Int), .int .i64 (comesGo cols l []).2]) ∧ Bl w w' := by
 have hr64 : l.length ≤ 64 ∧ rightL (l.map withN) 0 = true := by
  unfold rightP at hr
  split at hr
  · cases hr
  · rename_i hn; exact ⟨by rw [List.length_map] at hn; omega, hr⟩
 have HO : Hid (∀ x ∈ l, x.k = 6 → 0 ≤ x.n ∧ x.n < (cols.length : Int)) := fun x hx h6 => by
  have := List.any_eq_false.1 ho x hx
  unfold outP at this
  rw [decide_eq_true h6] at this
  simp at this
  omega
 have HLT := hid (clm_lt hcl)
 have HL := hid h
 have HC := hid hcl
 have HK := hid hK
 have HKC := hid hKc
 have HGW := hid hG
 obtain ⟨R, hR⟩ := gen (comesGo cols l [])
 obtain ⟨N, hN⟩ := gen l.length
 obtain ⟨M, hM⟩ := gen cols.length
 have HN := hid hN
 have HM := hid hM
 have HR0 : Hid (comesGo cols (l.drop 0) [] = R) := hR
 have HRL : Hid (rightL ((l.map withN).drop 0) ([] : List Nat).length = true) := hr64.2
 have hN64 : N ≤ 64 := by omega
 have HST : Hid (StK w.heap.size w (.slice none 0 0) []) := ⟨by simp, by simp, .inl ⟨rfl, rfl⟩⟩
 rw [hN, hM, hR]
 clear h hcl hK hKc hG hr ho hr64 hR hN hM
 go_enter func39, ntmps39
 go_wp2_with fail
 go_loopg [6, 14] N (fun gf s6 s14 wx => ∃ (i : Nat) (st : List Nat) (p : Option Addr) (n d : Nat), s6 = .slice p n d ∧ s14 = .int .i64 i ∧ i ≤ N ∧ N ≤ i + gf ∧ n ≤ d ∧ Hid (st.length = n ∧ n ≤ i) ∧ Hid (Bl w wx) ∧ Hid (StK w.heap.size wx (.slice p n d) st) ∧ Hid (rightL ((l.map withN).drop i) st.length = true) ∧ Hid (comesGo cols (l.drop i) st = R))
 case atStart => exact ⟨0, [], none, 0, 0, rfl, rfl, by omega, by omega, by omega, ⟨rfl, by omega⟩, Below.refl _ _, HST, HRL, HR0⟩
 case round =>
  clear HR0 HRL HST
  obtain ⟨i, st, p, n, d, rfl, rfl, hi1, hgf, hnd, HSN, HB, HST, HRL, HR⟩ := hrel
  by_cases hi : i < N
  · obtain ⟨g', rfl⟩ : ∃ g', gk = g' + 1 := ⟨gk - 1, by omega⟩
    have hil : i < l.length := by rw [HN.out]; exact hi
    have hbw := HB.out
    obtain ⟨b, o, hq, _, hc⟩ := stp_w (HL.out.mono mStpW (fun _ h => h) (kept_of HK.out hbw)) (by omega)
    subst hq
    obtain ⟨hrg, hok⟩ := hc i hil
    obtain ⟨ht1, ht2, ht3⟩ := right_at l i hil st.length HRL.out
    have hgo := comes_at cols l i hil st
    rw [HR.out] at hgo
    have hin := HO.out _ (List.getElem_mem hil)
    obtain ⟨y, hy⟩ := gen (l[i])
    rw [hy] at hrg hok ht1 ht2 ht3 hgo hin
    have hkS := kindS_lt cols y HLT.out
    obtain ⟨s, hse⟩ := bya y.t
    obtain ⟨k, hk⟩ : ∃ k : Nat, y.k = k := ⟨_, rfl⟩
    obtain ⟨m, hm⟩ : ∃ m : Int, y.n = m := ⟨_, rfl⟩
    have hyv : y.v = .agg #[.int .u8 (k : Int), .string s, .int .i64 m] := by rw [← hse, ← hk, ← hm]; rfl
    rw [hse, hk, hm] at hrg
    rw [hk] at ht1 ht2 ht3 hgo
    obtain ⟨t, htt⟩ := gen (takesN k)
    rw [htt] at ht1 ht2 ht3 hgo
    obtain ⟨r, hrt⟩ := gen (st.length - t)
    rw [hrt] at hgo
    have hsn := HSN.out
    have hrn : r + t = n := by omega
    have hrst : r + t = st.length := by omega
    have HRG := hid hrg
    obtain ⟨WA, hWA, hth, V1, hV1, hg1, hb1⟩ := box_three wr 53 (.int .u8 0) (.string ⟨#[]⟩) (.int .i64 0) (.int .u8 (k : Int)) (.string s) (.int .i64 m)
    have HTH := hid hth
    have HV1 := hid hV1
    have hl1 : wr.heap.size < V1.heap.size := (gsi hg1).1
    have hrow : ∀ V, Bl V1 V → V.rangeAt wr.heap.size 0 [.int .u8 (k : Int), .string s, .int .i64 m] := fun V hV j u hu => by rw [Nat.zero_add]; exact cell_of_row ((hV.block _ hl1).trans hg1) (by simpa using hu)
    have HRW := hid hrow
    have HR1 : Hid (V1.rangeAt wr.heap.size 0 [.int .u8 (k : Int), .string s, .int .i64 m]) := hrow V1 (Below.refl _ _)
    have hbw1 : Bl w V1 := hbw.trans (hb1.mono hbw.size)
    have C1 := hid (withName_any y V1)
    have C2 : Hid (∀ V, Bl V1 V → Calls prog 78 #[(withN y).v] V fun e w' => e = .returned (.tuple #[.int .i64 (t : Int), .bool true]) ∧ Bl V w') := fun V hV => by
     have := takes_w (withN y) V (okW_withN hok) (HGW.out.below (hbw1.trans (hV.mono hbw1.size)))
     rw [ht1] at this
     exact this
    obtain ⟨zv, hzv⟩ := gen ((withN y).v)
    rw [hyv, hzv] at C1
    rw [hzv] at C2
    have HY : Hid (y.v = .agg #[.int .u8 (k : Int), .string s, .int .i64 m]) := hyv
    have z0 : (0 : Int) ≤ (i : Int) := by omega
    have z1 : (i : Int) < (N : Int) := by omega
    have HFC : Hid ((k = y.k) ∧ st.length = n ∧ n ≤ i ∧ r + t = n ∧ (y.k = 6 → 0 ≤ y.n ∧ y.n < (cols.length : Int)) ∧ kindS cols y < 256) := ⟨hk.symm, hsn.1, hsn.2, hrn, hin, hkS⟩
    have HGO : Hid (R = if fitsP k (st.drop r) then comesGo cols (l.drop (i + 1)) (st.take r ++ [kindS cols y]) else (0, 5)) := hgo
    have HRL2 : Hid (rightL ((l.map withN).drop (i + 1)) (st.length + 1 - t) = true) := ht3
    have hw27 : IntKind.i64.wrap ((n : Int) - (t : Int)) = (r : Int) := by rw [IntKind.wrap_i64]; omega
    have hnt : (n : Int) - (t : Int) = (r : Int) := by omega
    have hwr : wrap64 (r : Int) = (r : Int) := by unfold wrap64; omega
    have HBW1 := hid hbw1
    have HB1 := hid hb1
    clear hc hrg hy hil hyv hse hk hm hth hV1 hg1 hbw hrow hbw1 hin hkS htt hrt hok ht1 ht2 ht3 hgo hsn hrst hzv HSN HB HRL HR hl1 hb1
    go_wp2_with (first | (refine wpList_load_mid rfl 53 _ rfl b (o + i * 3) rfl _ _ HRG.out underlying53 rfl sz_step ?_) | (refine wpList_load_mid rfl 53 _ rfl wr.heap.size 0 rfl _ _ HR1.out underlying53 rfl sz_step ?_) | (refine wpList_store_mid rfl 53 _ _ rfl wr.heap.size 0 #[.int .u8 (k : Int), .string s, .int .i64 m] rfl rfl HTH.out sz_step (by simp [Value.oneCell']) ?_; rw [show WA.setCells wr.heap.size 0 (#[.int .u8 (k : Int), .string s, .int .i64 m] : Array Value).toList = V1 from HV1.out]))
    refine C1.out.mono ?_
    rintro e w2 ⟨rfl, hb2⟩
    have C2' := hid (C2.out w2 hb2)
    have HB2 := hid hb2
    clear C1 C2 hb2 HTH HV1 HR1 HRG hWA
    go_wp2_with fail
    refine C2'.out.mono ?_
    rintro e w3 ⟨rfl, hb3⟩
    have hb3' : Bl V1 w3 := HB2.out.trans (hb3.mono HB2.out.size)
    obtain ⟨D, hD⟩ := gen w3.drew
    have hbD : Bl V1 D := by rw [← hD]; exact hb3'.drew
    have hS := HRW.out D hbD
    have HSD : Hid (D.rangeAt wr.heap.size 0 [.int .u8 (k : Int), .string s, .int .i64 m] ∧ D.cell? ⟨wr.heap.size, 0, none⟩ = some (.int .u8 (k : Int))) := ⟨hS, hS 0 _ rfl⟩
    have hbrD : Bl wr D := HB1.out.trans (hbD.mono HB1.out.size)
    have hbwD : Bl w D := HBW1.out.trans (hbD.mono HBW1.out.size)
    have hfc := HFC.out
    have hstD : StK w.heap.size D (.slice p n d) st := HST.out.later hbrD
    obtain ⟨p2, d2, htail, hlist⟩ := hstD.tail r t (by omega)
    have hcut := hstD.cut r (by omega)
    have hdl : (st.drop r).length = t := by rw [List.length_drop]; omega
    have C3 : Hid (Calls prog 81 #[.int .u8 (k : Int), .slice p2 t d2] D fun e w' => e = .returned (.bool (fitsP k (st.drop r))) ∧ Bl D w') := by
     have := fits_any (From w.heap.size D) k p2 d2 (st.drop r) D (hlist D (Below.refl _ _)) From.lt
     rw [hdl] at this
     exact this
    obtain ⟨F, hF⟩ := gen (fitsP k (st.drop r))
    rw [hF] at C3
    have HGO2 : Hid (R = if F = true then comesGo cols (l.drop (i + 1)) (st.take r ++ [kindS cols y]) else (0, 5)) := by show _ = _; rw [← hF]; exact HGO.out
    have HTAIL : Hid (sliced p r n d 1 = .slice p2 t d2) := htail
    have HCUT : Hid (sliced p 0 r r 1 = cutK (.slice p n d) r) := hcut
    have HSTD := hid hstD
    have HBD := hid hbD
    have HBRD := hid hbrD
    have HBWD := hid hbwD
    have hrd : r ≤ d := by omega
    have hrn' : r ≤ n := by omega
    clear hb3 hb3' hbD hbrD hbwD hS hfc hstD htail hlist hcut hdl hF HGO C2' HST
    go_wp2_with fail
    refine wp_region_held_drew (S := fun V => V.rangeAt wr.heap.size 0 [.int .u8 (k : Int), .string s, .int .i64 m] ∧ V.cell? ⟨wr.heap.size, 0, none⟩ = some (.int .u8 (k : Int))) (by kernel_rfl) (by rw [hD]; exact HSD.out) (fun hHeld => ?_)
    refine tk0 0 (.pointer (some ⟨wr.heap.size, 0, none⟩)) rfl hHeld ?_
    refine tk 1 (.int .u8 (k : Int)) rfl (.inl ⟨by rfl, fun W hW => by obtain ⟨_, h3⟩ := hW; go_simp⟩) hHeld ?_
    refine tk0 2 (.slice p n d) rfl hHeld ?_
    refine tk0 3 (.int .i64 (r : Int)) rfl hHeld ?_
    refine tk 4 (.slice p2 t d2) rfl (yieldsIf_tail (by rfl) _ _ rfl p n d r rfl rfl hrn' HTAIL.out) hHeld ?_
    simp only [Act.put, List.getElem_toArray, List.getElem_cons_zero, List.getElem_cons_succ, List.setIfInBounds_toArray, List.set_cons_zero, List.set_cons_succ]
    rw [hD] at hHeld ⊢
    clear hD
    refine wpAnyH_ready (rs := [5]) (by kernel_rfl) (by simp) ?_
    refine AllReadyH.cons rfl (fun K' hK => ?_) AllReadyH.nil
    rw [if_pos (by rfl)]
    go_simp
    go_at_call 81
    refine C3.out.mono ?_
    rintro e w4 ⟨rfl, hb4⟩
    have HB4 : Hid (Bl D w4) := hb4
    have hS4 := HRW.out w4 (HBD.out.trans (hb4.mono HBD.out.size))
    refine hK.out _ _ ⟨hS4, hS4 0 _ rfl⟩ (fun hHeld => ?_)
    clear hK K' hS4 C3 hb4
    refine wpAnyH_ready (rs := [6]) (by kernel_rfl) (by simp) ?_
    refine AllReadyH.cons rfl (fun K' hK => ?_) AllReadyH.nil
    rw [if_pos (by rfl)]
    cases F with
    | false =>
     have HE : Hid (R = (0, 5)) := HGO2.out
     have HBE : Hid (Bl w w4) := HBWD.out.trans (HB4.out.mono HBWD.out.size)
     clear HGO2
     go_simp
     refine hK _ _ hHeld (fun hHeld => ?_)
     clear hK K'
     refine wpAnyH_done (by kernel_rfl) ?_ _
     go_wp2_with fail
     go_ret2
     exact ⟨by rw [HE.out]; rfl, HBE.out⟩
    | true =>
     have HE : Hid (R = comesGo cols (l.drop (i + 1)) (st.take r ++ [kindS cols y])) := HGO2.out
     clear HGO2
     go_simp
     refine hK _ _ hHeld (fun hHeld => ?_)
     clear hK K'
     refine wpAnyH_done (by kernel_rfl) ?_ _
     obtain ⟨D2, hD2⟩ := gen w4.drew
     have hbD2 : Bl D D2 := by rw [← hD2]; exact HB4.out.drew
     have hS2 := HRW.out D2 (HBD.out.trans (hbD2.mono HBD.out.size))
     have HS2 := hid hS2
     have HSA : Hid (∀ V, Bl D2 V → V.rangeAt wr.heap.size 0 [.int .u8 (k : Int), .string s, .int .i64 m]) := fun V hV => HRW.out V ((HBD.out.trans (hbD2.mono HBD.out.size)).trans (hV.mono (by have := hbD2.size; have := HBD.out.size; omega)))
     have hbw2 : Bl w D2 := HBWD.out.trans (hbD2.mono HBWD.out.size)
     have hfc := HFC.out
     have C5 : Hid (Calls prog 82 #[.agg #[.int .u8 (k : Int), .string s, .int .i64 m], .slice qc M cc] D2 fun e w' => e = .returned (.int .u8 (kindS cols y : Int)) ∧ Bl D2 w') := by
      have := kindOf_any Kc y qc cc cols D2 (HC.out.mono mClm (fun _ h => h) (kept_of HKC.out hbw2)) (fun b hb => nlt (HKC.out b hb) hbw2.size) hfc.2.2.2.2.1
      rw [HY.out, HM.out] at this
      exact this
     have HST2 : Hid (StK w.heap.size D2 (.slice p n d) st) := HSTD.out.later hbD2
     obtain ⟨ks, hks⟩ := gen (kindS cols y)
     rw [hks] at C5 HE
     have hks256 : ks < 256 := by rw [← hks]; exact hfc.2.2.2.2.2
     obtain ⟨cv, hcv⟩ := gen (cutK (.slice p n d) r)
     have HCV : Hid (sliced p 0 r r 1 = cv) := HCUT.out.trans hcv
     have HCK := hid hcv
     have hcs : ∃ p3 n3, cv = .slice p3 n3 n3 := by
      rw [← hcv]
      obtain ⟨_, _, ⟨e, _⟩ | ⟨g, c', cur, e, _⟩⟩ := HST2.out
      · rw [e]; exact ⟨none, 0, rfl⟩
      · cases e; exact ⟨_, _, rfl⟩
     obtain ⟨p3, n3, rfl⟩ := hcs
     have HBW2 := hid hbw2
     clear hbD2 hS2 hfc hks hcv hbw2 hHeld HSTD HB4
     go_wp2_with fail
     refine wp_region_held_drew (S := fun V => V.rangeAt wr.heap.size 0 [.int .u8 (k : Int), .string s, .int .i64 m]) (by kernel_rfl) (by rw [hD2]; exact HS2.out) (fun hHeld => ?_)
     refine tk0 0 (.slice p n d) rfl hHeld ?_
     refine tk0 1 (.int .i64 (r : Int)) rfl hHeld ?_
     refine tk0 2 (.int .i64 (r : Int)) rfl hHeld ?_
     refine tk 3 (.slice p3 n3 n3) rfl (yieldsIf_cut (by rfl) _ _ _ rfl p n d r rfl rfl rfl hrd HCV.out) hHeld ?_
     refine tk 4 (.agg #[.int .u8 (k : Int), .string s, .int .i64 m]) rfl (yieldsIf_load_mid (by rfl) 53 (.tmp 8) rfl (wr.heap.size) (0) rfl [.int .u8 (k : Int), .string s, .int .i64 m] _ (fun W hW => hW) underlying53 rfl sz_step) hHeld ?_
     refine tk0 5 (.slice qc M cc) rfl hHeld ?_
     simp only [Act.put, List.getElem_toArray, List.getElem_cons_zero, List.getElem_cons_succ, List.setIfInBounds_toArray, List.set_cons_zero, List.set_cons_succ]
     rw [hD2] at hHeld ⊢
     clear hD2
     refine wpAnyH_ready (rs := [6]) (by kernel_rfl) (by simp) ?_
     refine AllReadyH.cons rfl (fun K' hK => ?_) AllReadyH.nil
     rw [if_pos (by rfl)]
     go_simp
     go_at_call 82
     refine C5.out.mono ?_
     rintro e w5 ⟨rfl, hb5⟩
     have hst5 := HST2.out.later hb5
     have hbw5 : Bl w w5 := HBW2.out.trans (hb5.mono HBW2.out.size)
     have hfc := HFC.out
     obtain ⟨v', X2, hrun, hst6, hb6⟩ := hst5.push r (by omega) (by omega) hbw5.size ks hks256
     rw [HCK.out] at hrun
     have HRUN := hid hrun
     have HS5 := hid (HSA.out w5 hb5)
     have HS6 := hid (HSA.out (w5.alloc (.cells #[.int .u8 (ks : Int)] 43)) (hb5.trans ((below_alloc w5 _).mono hb5.size)))
     have HS7 := hid (HSA.out X2 (hb5.trans (hb6.mono hb5.size)))
     have HB7 : Hid (Bl w X2) := hbw5.trans (hb6.mono hbw5.size)
     have hv' : ∃ p4 d4, v' = .slice p4 (r + 1) d4 ∧ r + 1 ≤ d4 := by
      obtain ⟨_, _, ⟨e, e2⟩ | ⟨g, c', cur, e, hc', _⟩⟩ := hst6
      · simp at e2
      · have hl : (st.take r ++ [ks]).length = r + 1 := by rw [List.length_append, List.length_take]; simp; omega
        rw [hl] at e hc'
        exact ⟨_, _, e, hc'.1⟩
     obtain ⟨p4, d4, rfl, hd4⟩ := hv'
     have HST7 := hid hst6
     have HRL7 : Hid (rightL ((l.map withN).drop (i + 1)) (st.take r ++ [ks]).length = true) := by
      show _ = _
      have := HRL2.out
      rw [List.length_append, List.length_take]
      rwa [show min r st.length + [ks].length = st.length + 1 - t by simp; omega]
     have HSN7 : Hid ((st.take r ++ [ks]).length = r + 1 ∧ r + 1 ≤ i + 1) := by
      show _ ∧ _
      rw [List.length_append, List.length_take]
      simp; omega
     have HE7 : Hid (comesGo cols (l.drop (i + 1)) (st.take r ++ [ks]) = R) := HE.out.symm
     refine hK.out _ _ HS5.out (fun hHeld => ?_)
     clear hK K' hst5 hbw5 hfc hrun hst6 hb6 hb5 C5 HE HRL2
     refine wpAnyH_ready (rs := [7]) (by kernel_rfl) (by simp) ?_
     refine AllReadyH.cons rfl (fun K' hK => ?_) AllReadyH.nil
     rw [if_pos (by rfl)]
     go_simp
     refine hK _ _ HS6.out (fun hHeld => ?_)
     clear hK K'
     refine wpAnyH_ready (rs := [8]) (by kernel_rfl) (by simp) ?_
     refine AllReadyH.cons rfl (fun K' hK => ?_) AllReadyH.nil
     rw [if_pos (by rfl)]
     refine wp_append_run _ _ 30 30 rfl (.slice p3 n3 n3) (.slice (some ⟨w5.heap.size, 0, none⟩) 1 1) rfl rfl _ _ HRUN.out ?_
     simp only [Act.put, List.getElem_toArray, List.getElem_cons_zero, List.getElem_cons_succ, List.setIfInBounds_toArray, List.set_cons_zero, List.set_cons_succ]
     refine hK _ _ HS7.out (fun hHeld => ?_)
     clear hK K'
     refine wpAnyH_ready (rs := [9]) (by kernel_rfl) (by simp) ?_
     refine AllReadyH.cons rfl (fun K' hK => ?_) AllReadyH.nil
     rw [if_pos (by rfl)]
     go_simp
     refine hK _ _ HS7.out (fun hHeld => ?_)
     clear hK K'
     refine wpAnyH_done (by kernel_rfl) ?_ _
     go_wp2_with fail
     go_roundg g'
     case measure => omega
     case rel => exact ⟨i + 1, st.take r ++ [ks], p4, r + 1, d4, rfl, by go_num, by omega, by omega, hd4, HSN7, HB7, HST7, HRL7, HE7⟩
  · have z1 : ¬ (i : Int) < (N : Int) := by omega
    have hnil : l.drop i = [] := List.drop_of_length_le (by rw [HN.out]; omega)
    have hst1 : st.length = 1 := by
     have := HRL.out
     rw [← List.map_drop, hnil] at this
     unfold rightL at this
     exact of_decide_eq_true this
    have hRe : R = (st.headD 0, 0) := by rw [← HR.out, hnil]; rfl
    obtain ⟨a, rfl⟩ : ∃ a, st = [a] := by
     match st, hst1 with
     | [a], _ => exact ⟨a, rfl⟩
    have hn1 : n = 1 := by have := HSN.out; simp at this; omega
    obtain ⟨_, _, ⟨_, e2⟩ | ⟨g, c2, cur, e, _, hgb, hh, ht⟩⟩ := HST.out
    · cases e2
    cases e
    have hcell : wr.cell? ⟨g, 0, none⟩ = some (.int .u8 (a : Int)) := by
     have h1 : (cur.toList.take 1)[0]? = some (.int .u8 (a : Int)) := by
      have : cur.toList.take [a].length = kVals [a] := ht
      rw [show [a].length = 1 from rfl] at this
      rw [this]; rfl
     rw [List.getElem?_take_of_lt (by omega)] at h1
     exact cell_of_row hh (by simpa using h1)
    have HE : Hid (R = (a, 0)) := hRe
    clear hnil hst1 hRe hh ht HRL HR HST HSN hn1
    go_wp2_with fail
    go_ret2
    exact ⟨by rw [HE.out]; rfl, HB.out⟩
def IsT (b : Bool) : Prop := b = true
def IsF (b : Bool) : Prop := b = false
theorem kind_any (K Kc : Nat → Prop) (q qc : Option Addr) (c cc : Nat) (l : List Stp) (cols : List Clm) (w : World) (h : ListIs rStpW 3 32 K w (.slice q l.length c) l) (hcl : ListIs rClm 2 24 Kc w (.slice qc cols.length cc) cols) (hK : ∀ b, K b → b < w.heap.size) (hKc : ∀ b, Kc b → b < w.heap.size) (hG : GW w) :
 Calls prog 14 #[.slice q l.length c, .slice qc cols.length cc] w fun e w' => e = .returned (.tuple #[.int .u8 ((kindP l cols).1 : Int), .int .i64 (kindP l cols).2]) ∧ Bl w w' := by
 obtain ⟨W0, hW0, hb0, hg0, hs0⟩ := one_box w (.slice qc cols.length cc) 38
 have hcell : ∀ V, Bl W0 V → V.cell? ⟨w.heap.size, 0, none⟩ = some (.slice qc cols.length cc) := fun V hV => cell_of_row (k := 0) ((hV.block _ (by omega)).trans hg0) rfl
 have hl : ∀ V, Bl w V → ListIs rStpW 3 32 K V (.slice q l.length c) l := fun V hV => h.later mStpW hK hV
 have hkl : ∀ V, Bl w V → ∀ b, K b → b < V.heap.size := fun V hV b hb => nlt (hK b hb) hV.size
 have hm : ∀ V, Bl W0 V → Bl w V := fun V hV => hb0.trans (hV.mono (by omega))
 have hbig : l.length ≤ 140737488355328 ∧ cols.length ≤ 140737488355328 := by
  obtain ⟨_, _, -, ⟨h1, -⟩, -⟩ := h
  obtain ⟨_, _, -, ⟨h2, -⟩, -⟩ := hcl
  omega
 have C1 := hid (withNames_any K q c l W0 (hl W0 hb0) (hkl W0 hb0))
 have C2 : Hid (∀ V, Bl W0 V → ListIs rStpW 3 32 (From W0.heap.size V) V (.slice (some ⟨W0.heap.size, 0, none⟩) l.length l.length) (l.map withN) → Calls prog 34 #[.slice (some ⟨W0.heap.size, 0, none⟩) l.length l.length] V fun e w' => e = .returned (.bool (rightP (l.map withN))) ∧ Bl V w') := fun V hV hli => by
  have := right_w (From W0.heap.size V) (some ⟨W0.heap.size, 0, none⟩) l.length (l.map withN) V (by rw [List.length_map]; exact hli) From.lt (hG.below (hm V hV))
  rwa [List.length_map] at this
 have C3 : Hid (∀ V, Bl W0 V → Calls prog 36 #[.slice q l.length c, .func (.func 37) #[] #[.pointer (some ⟨w.heap.size, 0, none⟩)]] V fun e w' => e = .returned (.bool (l.any (outP cols.length))) ∧ Bl V w') := fun V hV =>
  contains_out K q qc c cc l cols.length w.heap.size V (hl V (hm V hV)) (hkl V (hm V hV)) (hcell V hV) (by have := hV.size; omega)
 have C4 : Hid (IsT (rightP (l.map withN)) → IsF (l.any (outP cols.length)) → ∀ V, Bl W0 V → Calls prog 39 #[.slice q l.length c, .slice qc cols.length cc] V fun e w' => e = .returned (.tuple #[.int .u8 ((comesGo cols l []).1 : Int), .int .i64 (comesGo cols l []).2]) ∧ Bl V w') := fun h1 h2 V hV =>
  comesTo_any K Kc q qc c cc l cols V (hl V (hm V hV)) (hcl.later mClm hKc (hm V hV)) (hkl V (hm V hV)) (fun b hb => nlt (hKc b hb) (hm V hV).size) (hG.below (hm V hV)) h1 h2
 have hmf : ∀ (fn : Fn) (first cap : Array Value) (w : World), (Instr.makeFunc fn first cap).run prog w = .ok (.func fn first cap) w := fun _ _ _ _ => rfl
 obtain ⟨R, hR⟩ := gen (kindP l cols)
 obtain ⟨A, hA⟩ := gen (rightP (l.map withN))
 obtain ⟨B, hB⟩ := gen (l.any (outP cols.length))
 obtain ⟨E, hE⟩ := gen (comesGo cols l [])
 have HR : Hid (R = if A = false then (0, 13) else if 16 < cols.length then (0, 3) else if B then (0, 2) else E) := by show _ = _; rw [← hR, ← hA, ← hB, ← hE]; rfl
 have HSH : Hid (64 < l.length → A = false) := fun h => by rw [← hA]; exact right_short h
 rw [hA] at C2 C4
 rw [hB] at C3 C4
 rw [hE] at C4
 rw [hR]
 have HCELL := hid hcell
 have HM := hid hm
 obtain ⟨N, hN⟩ := gen l.length
 obtain ⟨M, hM⟩ := gen cols.length
 rw [hN] at C1 C2 C3 C4 HSH hbig ⊢
 rw [hM] at C4 HR HCELL hW0 hbig ⊢
 have HB0 := hid hb0
 have HN := hid hN
 clear h hcl hK hKc hG hb0 hg0 hs0 hcell hl hkl hm hR hA hB hE hN hM
 by_cases h64 : 64 < N
 · have y64 : (64 : Int) < (N : Int) := by omega
   have HE : Hid (R = (0, 13)) := by show _ = _; rw [HR.out, if_pos (HSH.out h64)]
   clear HR HSH C1 C2 C3 C4 h64
   go_enter func14, ntmps14
   go_wp2_with fail
   go_ret2
   exact ⟨by rw [HE.out]; rfl, HB0.out⟩
 have y64 : ¬ (64 : Int) < (N : Int) := by omega
 clear HSH
 go_enter func14, ntmps14
 go_wp2_with fail
 refine C1.out.mono ?_
 rintro e w1 ⟨⟨rfl, hli⟩, hb1⟩
 have C2' := hid (C2.out w1 hb1 (by have := hli; exact this))
 have HB1 := hid hb1
 clear C1 C2 hb1 hli
 go_wp2_with fail
 refine C2'.out.mono ?_
 rintro e w2 ⟨rfl, hb2⟩
 have HB2 : Hid (Bl W0 w2) := HB1.out.trans (hb2.mono HB1.out.size)
 have HBW2 : Hid (Bl w w2) := HM.out w2 HB2.out
 have c3 := HCELL.out w2 HB2.out
 clear C2' hb2 HB1
 cases A with
 | false =>
  have HE : Hid (R = (0, 13)) := by show _ = _; rw [HR.out, if_pos rfl]
  clear HR C3 C4
  go_wp2_with fail
  go_ret2
  exact ⟨by rw [HE.out]; rfl, HBW2.out⟩
 | true =>
  have HR2 : Hid (R = if 16 < M then (0, 3) else if B then (0, 2) else E) := by show _ = _; rw [HR.out, if_neg (by simp)]
  clear HR
  by_cases h16 : 16 < M
  · have y16 : (16 : Int) < (M : Int) := by omega
    have HE : Hid (R = (0, 3)) := by show _ = _; rw [HR2.out, if_pos h16]
    clear HR2 C3 C4 h16
    go_wp2_with fail
    go_ret2
    exact ⟨by rw [HE.out]; rfl, HBW2.out⟩
  · have y16 : ¬ (16 : Int) < (M : Int) := by omega
    have HR3 : Hid (R = if B then (0, 2) else E) := by show _ = _; rw [HR2.out, if_neg h16]
    have C3' := hid (C3.out w2 HB2.out)
    clear HR2 C3 h16
    go_wp2_with fail
    refine C3'.out.mono ?_
    rintro e w3 ⟨rfl, hb3⟩
    have HB3 : Hid (Bl W0 w3) := HB2.out.trans (hb3.mono HB2.out.size)
    have HBW3 : Hid (Bl w w3) := HM.out w3 HB3.out
    have c4 := HCELL.out w3 HB3.out
    clear C3' hb3 HB2 HBW2
    cases B with
    | true =>
     have HE : Hid (R = (0, 2)) := by show _ = _; rw [HR3.out, if_pos rfl]
     clear HR3 C4
     go_wp2_with fail
     go_ret2
     exact ⟨by rw [HE.out]; rfl, HBW3.out⟩
    | false =>
     have HE : Hid (R = E) := by show _ = _; rw [HR3.out, if_neg (by simp)]
     have C4' := hid (C4.out (show IsT true from rfl) (show IsF false from rfl) w3 HB3.out)
     clear HR3 C4
     go_wp2_with fail
     refine C4'.out.mono ?_
     rintro e w4 ⟨rfl, hb4⟩
     have HBW4 : Hid (Bl w w4) := HBW3.out.trans (hb4.mono HBW3.out.size)
     clear C4' hb4
     go_wp2_with fail
     go_ret2
     exact ⟨by rw [HE.out]; rfl, HBW4.out⟩
end Go.Proofs.YtfifphfihdhlaaaGreatDoor.Bd
