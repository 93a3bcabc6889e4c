/- What a bound expression comes to: the kinds of its steps, on a stack. No walk stands in this text. -/
import Derived.Test.YtfifphfihdhlaaaGreatDoorQw
set_option maxRecDepth 100000
set_option maxHeartbeats 32000000
namespace Go.Proofs.YtfifphfihdhlaaaGreatDoor.Bd
open Go.RowKit Go.Lib
set_option linter.unusedVariables false
set_option linter.unusedSimpArgs false
structure Clm where
 n : List UInt8
 k : Nat
structure Tab where
 n : List UInt8
 c : List Clm
def mayBe (m t : Nat) : Bool := decide (t = m) || decide (t = 0)
def orK : List Nat → Nat
 | [] => 0
 | x :: l => if x = 0 then orK l else x
def fitsP (k : Nat) (l : List Nat) : Bool :=
 if k = 7 ∨ k = 11 ∨ k = 12 ∨ k = 13 then l.all (mayBe 2)
 else if k = 10 then l.all (mayBe 3)
 else if k = 8 ∨ k = 20 ∨ k = 21 then l.all (mayBe 1)
 else if 14 ≤ k ∧ k ≤ 19 then l.all (mayBe (orK l))
 else true
def kindS (cols : List Clm) (s : Stp) : Nat :=
 if s.k = 1 then 0 else if s.k = 5 then 3
 else if s.k = 6 then (cols[s.n.toNat]?.map Clm.k).getD 0
 else if s.k = 4 ∨ s.k = 7 ∨ s.k = 10 ∨ s.k = 11 ∨ s.k = 12 ∨ s.k = 13 then 2 else 1
def boundP : List UInt8 := [98, 111, 117, 110, 100]
def withN (s : Stp) : Stp := if s.k = 6 ∧ s.t = [] then ⟨6, boundP, 0⟩ else s
def outP (n : Nat) (s : Stp) : Bool := decide (s.k = 6) && (decide (s.t ≠ []) || (decide (s.n < 0) || decide ((n : Int) ≤ s.n)))
def comesGo (cols : List Clm) : List Stp → List Nat → Nat × Int
 | [], st => (st.headD 0, 0)
 | s :: l, st => if fitsP s.k (st.drop (st.length - takesN s.k)) then comesGo cols l (st.take (st.length - takesN s.k) ++ [kindS cols s]) else (0, 5)
def kindP (l : List Stp) (cols : List Clm) : Nat × Int :=
 if rightP (l.map withN) = false then (0, 13) else if 16 < cols.length then (0, 3) else if l.any (outP cols.length) then (0, 2) else comesGo cols l []
theorem withN_k (s : Stp) : (withN s).k = s.k := by
 unfold withN
 split
 · rename_i h; exact h.1.symm
 · rfl
theorem right_short {l : List Stp} (h : 64 < l.length) : rightP (l.map withN) = false := by
 unfold rightP
 rw [if_pos (by simp; omega)]
theorem kindS_lt (cols : List Clm) (s : Stp) (h : ∀ c ∈ cols, c.k < 256) : kindS cols s < 256 := by
 unfold kindS
 split
 · decide
 split
 · decide
 split
 · cases hc : cols[s.n.toNat]? with
   | none => exact by decide
   | some c => exact h c (List.mem_of_getElem? hc)
 split
 · decide
 · decide
open Tryz
open Go.Shelf Go.RowKit Go.Lib Go.Sort
attribute [local go_sem ↓] Go.wp_at_zero Go.wp_at_succ
theorem empty_text {s : ByteArray} {t : List UInt8} (h : s.data.toList = t) : (t = [] → s.toList.isEmpty = true) ∧ (t ≠ [] → s.toList.isEmpty = false) := by
 rw [Lib.toList_data, h]
 constructor
 · intro e; rw [e]; rfl
 · intro e
   cases t with
   | nil => exact absurd rfl e
   | cons a l => rfl
theorem withName_any (x : Stp) (w : World) : Calls prog 79 #[x.v] w fun e w' => e = .returned (withN x).v ∧ Bl w w' := by
 obtain ⟨s, hse⟩ := bya x.t
 have hst : s.data.toList = x.t := by rw [← hse]
 have hv : x.v = .agg #[.int .u8 (x.k : Int), .string s, .int .i64 x.n] := by rw [← hse]; rfl
 obtain ⟨W0, hW0, hb0, hs0, g0, g1⟩ := two_boxes2 w #[.int .u8 (x.k : Int), .string s, .int .i64 x.n] #[.int .u8 0, .string ⟨#[]⟩, .int .i64 0] 53 53
 have c0 := cell_of_row (k := 0) (v := .int .u8 (x.k : Int)) g0 rfl
 have c1 := cell_of_row (k := 1) (v := .string s) g0 rfl
 have HR0 : Hid (W0.rangeAt w.heap.size 0 [.int .u8 (x.k : Int), .string s, .int .i64 x.n]) := rgz g0
 have hE := empty_text hst
 by_cases hc : x.k = 6 ∧ x.t = []
 · obtain ⟨h6, he⟩ := hc
   have y6 : ((x.k : Int) == 6) = true := by simp [h6]
   have t5 := hE.1 he
   obtain ⟨hth, X, hX, hld, hsX, hkX⟩ := put_row W0 (w.heap.size + 1) _ 53 g1 [.int .u8 6, .string ⟨#[98, 111, 117, 110, 100]⟩, .int .i64 0] rfl underlying53 rfl sz_step
   have HTH : Hid (W0.there (w.heap.size + 1) 0 3) := hth
   have HWX : Hid (W0.setCells (w.heap.size + 1) 0 (#[.int .u8 6, .string ⟨#[98, 111, 117, 110, 100]⟩, .int .i64 0] : Array Value).toList = X) := hX
   have HLD : Hid ((loadVar 53 ⟨w.heap.size + 1, 0, none⟩).run prog X = .ok (.agg #[.int .u8 6, .string ⟨#[98, 111, 117, 110, 100]⟩, .int .i64 0]) X) := hld
   have HFX : Hid (Bl w X) := by
    have hb := hb0
    exact ⟨hkX.os.trans hb.os, hkX.tape.trans hb.tape, hkX.output.trans hb.output, by have := hb.size; omega, fun b h => (hkX.block b (by show b ≠ _; omega)).trans (hb.block b h)⟩
   have HE : Hid ((withN x).v = .agg #[.int .u8 6, .string ⟨#[98, 111, 117, 110, 100]⟩, .int .i64 0]) := by
    show _ = _
    unfold withN; rw [if_pos ⟨h6, he⟩]; rfl
   rw [hv]
   clear hth hX hld hsX hkX hE h6 he hse hst hv hb0 hs0 g0 g1
   go_enter func79, ntmps79
   go_wp2_with (refine wpList_store_mid rfl 53 _ _ rfl (w.heap.size + 1) 0 #[.int .u8 6, .string ⟨#[98, 111, 117, 110, 100]⟩, .int .i64 0] rfl rfl HTH.out sz_step (by simp [Value.oneCell']) ?_; rw [HWX.out])
   refine bodyPost_ret (v := .agg #[.int .u8 6, .string ⟨#[98, 111, 117, 110, 100]⟩, .int .i64 0]) (by simp only [results, results79]; simp [asAddr, Act.put, HLD.out]) rfl ?_
   exact ⟨by rw [HE.out], HFX.out⟩
 · obtain ⟨hth, X, hX, hld, hsX, hkX⟩ := put_row W0 (w.heap.size + 1) _ 53 g1 [.int .u8 (x.k : Int), .string s, .int .i64 x.n] rfl underlying53 rfl sz_step
   have HTH : Hid (W0.there (w.heap.size + 1) 0 3) := hth
   have HWX : Hid (W0.setCells (w.heap.size + 1) 0 (#[.int .u8 (x.k : Int), .string s, .int .i64 x.n] : Array Value).toList = X) := hX
   have HLD : Hid ((loadVar 53 ⟨w.heap.size + 1, 0, none⟩).run prog X = .ok (.agg #[.int .u8 (x.k : Int), .string s, .int .i64 x.n]) X) := hld
   have HFX : Hid (Bl w X) := by
    have hb := hb0
    exact ⟨hkX.os.trans hb.os, hkX.tape.trans hb.tape, hkX.output.trans hb.output, by have := hb.size; omega, fun b h => (hkX.block b (by show b ≠ _; omega)).trans (hb.block b h)⟩
   have HE : Hid ((withN x).v = .agg #[.int .u8 (x.k : Int), .string s, .int .i64 x.n]) := by
    show _ = _
    unfold withN; rw [if_neg hc, hv]
   rw [hv]
   by_cases h6 : x.k = 6
   · have y6 : ((x.k : Int) == 6) = true := by simp [h6]
     have t5 := hE.2 (fun h => hc ⟨h6, h⟩)
     clear hth hX hld hsX hkX hE hc h6 hse hst hv hb0 hs0 g0 g1
     go_enter func79, ntmps79
     go_wp2_with (first | (refine wpList_load_mid rfl 53 _ rfl w.heap.size 0 rfl _ _ HR0.out underlying53 rfl sz_step ?_) | (refine wpList_store_mid rfl 53 _ _ rfl (w.heap.size + 1) 0 #[.int .u8 (x.k : Int), .string s, .int .i64 x.n] rfl rfl HTH.out sz_step (by simp [Value.oneCell']) ?_; rw [HWX.out]))
     refine bodyPost_ret (v := .agg #[.int .u8 (x.k : Int), .string s, .int .i64 x.n]) (by simp only [results, results79]; simp [asAddr, Act.put, HLD.out]) rfl ?_
     exact ⟨by rw [HE.out], HFX.out⟩
   · have y6 : ((x.k : Int) == 6) = false := bfn (by omega)
     clear hth hX hld hsX hkX hE hc h6 hse hst hv hb0 hs0 g0 g1
     go_enter func79, ntmps79
     go_wp2_with (first | (refine wpList_load_mid rfl 53 _ rfl w.heap.size 0 rfl _ _ HR0.out underlying53 rfl sz_step ?_) | (refine wpList_store_mid rfl 53 _ _ rfl (w.heap.size + 1) 0 #[.int .u8 (x.k : Int), .string s, .int .i64 x.n] rfl rfl HTH.out sz_step (by simp [Value.oneCell']) ?_; rw [HWX.out]))
     refine bodyPost_ret (v := .agg #[.int .u8 (x.k : Int), .string s, .int .i64 x.n]) (by simp only [results, results79]; simp [asAddr, Act.put, HLD.out]) rfl ?_
     exact ⟨by rw [HE.out], HFX.out⟩
theorem outside_any (x : Stp) (n : Nat) (w : World) : Calls prog 38 #[x.v, .int .i64 (n : Int)] w fun e w' => e = .returned (.bool (outP n x)) ∧ Bl w w' := by
 obtain ⟨s, hse⟩ := bya x.t
 have hst : s.data.toList = x.t := by rw [← hse]
 have hv : x.v = .agg #[.int .u8 (x.k : Int), .string s, .int .i64 x.n] := by rw [← hse]; rfl
 obtain ⟨W0, hW0⟩ := gen (w.alloc (.cells #[.int .u8 (x.k : Int), .string s, .int .i64 x.n] 53))
 have hb0 : Bl w W0 := by rw [← hW0]; exact below_alloc _ _
 have g0 : W0.heap[w.heap.size]? = some (.cells #[.int .u8 (x.k : Int), .string s, .int .i64 x.n] 53 (0, 0)) := by rw [← hW0]; exact heap_alloc_new w _
 have c0 := cell_of_row (k := 0) (v := .int .u8 (x.k : Int)) g0 rfl
 have c1 := cell_of_row (k := 1) (v := .string s) g0 rfl
 have c2 := cell_of_row (k := 2) (v := .int .i64 x.n) g0 rfl
 have hE := empty_text hst
 have HB := hid hb0
 obtain ⟨R, hR⟩ := gen (outP n x)
 rw [hv, hR]
 unfold outP at hR
 clear hb0 g0 hse hst hv
 by_cases h6 : x.k = 6
 case neg =>
  have y6 : ((x.k : Int) == 6) = false := bfn (by omega)
  have HR : Hid (R = false) := by show _ = _; rw [← hR, decide_eq_false h6]; rfl
  clear hE hR h6
  go_enter func38, ntmps38
  go_wp2_with fail
  go_ret
  exact ⟨by rw [HR.out]; rfl, HB.out⟩
 have y6 : ((x.k : Int) == 6) = true := by simp [h6]
 by_cases he : x.t = []
 case neg =>
  have t5 := hE.2 he
  have HR : Hid (R = true) := by show _ = _; rw [← hR, decide_eq_true h6, decide_eq_true (show x.t ≠ [] from he)]; rfl
  clear hE hR h6 he
  go_enter func38, ntmps38
  go_wp2_with fail
  go_ret
  exact ⟨by rw [HR.out]; rfl, HB.out⟩
 have t5 := hE.1 he
 by_cases h0 : x.n < 0
 case pos =>
  have z0 : decide (x.n < 0) = true := decide_eq_true h0
  have HR : Hid (R = true) := by show _ = _; rw [← hR, decide_eq_true h6, z0]; simp
  clear hE hR h6 he
  go_enter func38, ntmps38
  go_wp2_with fail
  go_ret
  exact ⟨by rw [HR.out]; rfl, HB.out⟩
 have z0 : decide (x.n < 0) = false := decide_eq_false h0
 have HR : Hid (R = decide ((n : Int) ≤ x.n)) := by show _ = _; rw [← hR, decide_eq_true h6, z0, he]; simp
 clear hE hR h6 he
 go_enter func38, ntmps38
 go_wp2_with fail
 go_ret
 exact ⟨by rw [HR.out]; rfl, HB.out⟩
def rClm : Rel Clm := fun _ _ cs x => cs = [.string ⟨x.n.toArray⟩, .int .u8 (x.k : Int)] ∧ x.n.length ≤ 140737488355328 ∧ x.k < 256
theorem mClm : Mono rClm := fun _ _ _ _ _ _ _ _ h => h
theorem clm_at {K : Nat → Prop} {w : World} {q : Option Addr} {n c : Nat} {l : List Clm} (h : ListIs rClm 2 24 K w (.slice q n c) l) (hl : 0 < l.length) : ∃ b o, q = some ⟨b, o, none⟩ ∧ K b ∧ ∀ i (hi : i < l.length), w.cell? ⟨b, o + i * 2, none⟩ = some (.string ⟨(l[i]).n.toArray⟩) ∧ w.cell? ⟨b, o + i * 2 + 1, none⟩ = some (.int .u8 ((l[i]).k : Int)) := by
 obtain ⟨q', c', e, _, hp⟩ := h
 obtain ⟨b, o, rfl, hKb, hc⟩ := hp hl
 cases e
 refine ⟨b, o, rfl, hKb, fun i hi => ?_⟩
 obtain ⟨cs, _, hcell, rfl, _, _⟩ := hc i hi
 exact ⟨hcell 0 _ rfl, hcell 1 _ rfl⟩
theorem kindOf_any (K : Nat → Prop) (x : Stp) (q : Option Addr) (c : Nat) (cols : List Clm) (w : World) (h : ListIs rClm 2 24 K w (.slice q cols.length c) cols) (hK : ∀ b, K b → b < w.heap.size) (hin : x.k = 6 → 0 ≤ x.n ∧ x.n < (cols.length : Int)) :
 Calls prog 82 #[x.v, .slice q cols.length c] w fun e w' => e = .returned (.int .u8 (kindS cols x : Int)) ∧ Bl w w' := by
 obtain ⟨s, hse⟩ := bya x.t
 have hv : x.v = .agg #[.int .u8 (x.k : Int), .string s, .int .i64 x.n] := by rw [← hse]; rfl
 obtain ⟨W0, hW0⟩ := gen (w.alloc (.cells #[.int .u8 (x.k : Int), .string s, .int .i64 x.n] 53))
 have hb0 : Bl w W0 := by rw [← hW0]; exact below_alloc _ _
 have g0 : W0.heap[w.heap.size]? = some (.cells #[.int .u8 (x.k : Int), .string s, .int .i64 x.n] 53 (0, 0)) := by rw [← hW0]; exact heap_alloc_new w _
 have c0 := cell_of_row (k := 0) (v := .int .u8 (x.k : Int)) g0 rfl
 have c2 := cell_of_row (k := 2) (v := .int .i64 x.n) g0 rfl
 have HL := hid (h.later mClm hK hb0)
 have HB := hid hb0
 obtain ⟨R, hR⟩ := gen (kindS cols x)
 obtain ⟨n, hn⟩ := gen cols.length
 rw [hv, hR]
 unfold kindS at hR
 clear h hb0 g0 hse hv hK
 by_cases e1 : x.k = 1
 case pos =>
  have y1 : ((x.k : Int) == 1) = true := by simp [e1]
  have HR : Hid (R = 0) := by show _ = _; rw [← hR, if_pos e1]
  rw [hn]
  clear hR hin HL hn e1
  go_enter func82, ntmps82
  go_wp2_with fail
  go_ret
  exact ⟨by rw [HR.out]; rfl, HB.out⟩
 by_cases e5 : x.k = 5
 case pos =>
  have y1 : ((x.k : Int) == 1) = false := bfn (by omega)
  have y5 : ((x.k : Int) == 5) = true := by simp [e5]
  have HR : Hid (R = 3) := by show _ = _; rw [← hR, if_neg e1, if_pos e5]
  rw [hn]
  clear hR hin HL hn e1 e5
  go_enter func82, ntmps82
  go_wp2_with fail
  go_ret
  exact ⟨by rw [HR.out]; rfl, HB.out⟩
 by_cases e6 : x.k = 6
 case pos =>
  have y1 : ((x.k : Int) == 1) = false := bfn (by omega)
  have y5 : ((x.k : Int) == 5) = false := bfn (by omega)
  have y6 : ((x.k : Int) == 6) = true := by simp [e6]
  obtain ⟨h1, h2⟩ := hin e6
  obtain ⟨j, hj⟩ : ∃ j : Nat, x.n = (j : Int) := ⟨x.n.toNat, by omega⟩
  have hjl : j < cols.length := by omega
  obtain ⟨b, o, hq, _, hc⟩ := clm_at HL.out (by omega)
  subst hq
  have hcell := (hc j hjl).2
  have HR : Hid (R = (cols[j]).k) := by
   show _ = _
   rw [← hR, if_neg e1, if_neg e5, if_pos e6, hj, Int.toNat_natCast, List.getElem?_eq_getElem hjl]
   rfl
  rw [hj] at c2
  obtain ⟨r, hr⟩ := gen ((cols[j]).k)
  rw [hr] at hcell HR
  have z0 : (0 : Int) ≤ (j : Int) := by omega
  have z1 : (j : Int) < (n : Int) := by omega
  rw [hj] at hW0 ⊢
  rw [hn]
  clear hR hin HL hc h1 h2 hj hjl hr hn e1 e5 e6
  go_enter func82, ntmps82
  go_wp2_with fail
  go_ret
  exact ⟨by rw [HR.out]; rfl, HB.out⟩
 by_cases e4 : x.k = 4
 case pos =>
  have y1 : ((x.k : Int) == 1) = false := bfn (by omega)
  have y5 : ((x.k : Int) == 5) = false := bfn (by omega)
  have y6 : ((x.k : Int) == 6) = false := bfn (by omega)
  have y4 : ((x.k : Int) == 4) = true := by simp [e4]
  have HR : Hid (R = 2) := by show _ = _; rw [← hR, if_neg e1, if_neg e5, if_neg e6, if_pos (by omega)]
  rw [hn]
  clear hR hin HL hn e1 e5 e6 e4
  go_enter func82, ntmps82
  go_wp2_with fail
  go_ret
  exact ⟨by rw [HR.out]; rfl, HB.out⟩
 by_cases e7 : x.k = 7
 case pos =>
  have y1 : ((x.k : Int) == 1) = false := bfn (by omega)
  have y5 : ((x.k : Int) == 5) = false := bfn (by omega)
  have y6 : ((x.k : Int) == 6) = false := bfn (by omega)
  have y4 : ((x.k : Int) == 4) = false := bfn (by omega)
  have y7 : ((x.k : Int) == 7) = true := by simp [e7]
  have HR : Hid (R = 2) := by show _ = _; rw [← hR, if_neg e1, if_neg e5, if_neg e6, if_pos (by omega)]
  rw [hn]
  clear hR hin HL hn e1 e5 e6 e4 e7
  go_enter func82, ntmps82
  go_wp2_with fail
  go_ret
  exact ⟨by rw [HR.out]; rfl, HB.out⟩
 by_cases e10 : x.k = 10
 case pos =>
  have y1 : ((x.k : Int) == 1) = false := bfn (by omega)
  have y5 : ((x.k : Int) == 5) = false := bfn (by omega)
  have y6 : ((x.k : Int) == 6) = false := bfn (by omega)
  have y4 : ((x.k : Int) == 4) = false := bfn (by omega)
  have y7 : ((x.k : Int) == 7) = false := bfn (by omega)
  have y10 : ((x.k : Int) == 10) = true := by simp [e10]
  have HR : Hid (R = 2) := by show _ = _; rw [← hR, if_neg e1, if_neg e5, if_neg e6, if_pos (by omega)]
  rw [hn]
  clear hR hin HL hn e1 e5 e6 e4 e7 e10
  go_enter func82, ntmps82
  go_wp2_with fail
  go_ret
  exact ⟨by rw [HR.out]; rfl, HB.out⟩
 by_cases e11 : x.k = 11
 case pos =>
  have y1 : ((x.k : Int) == 1) = false := bfn (by omega)
  have y5 : ((x.k : Int) == 5) = false := bfn (by omega)
  have y6 : ((x.k : Int) == 6) = false := bfn (by omega)
  have y4 : ((x.k : Int) == 4) = false := bfn (by omega)
  have y7 : ((x.k : Int) == 7) = false := bfn (by omega)
  have y10 : ((x.k : Int) == 10) = false := bfn (by omega)
  have y11 : ((x.k : Int) == 11) = true := by simp [e11]
  have HR : Hid (R = 2) := by show _ = _; rw [← hR, if_neg e1, if_neg e5, if_neg e6, if_pos (by omega)]
  rw [hn]
  clear hR hin HL hn e1 e5 e6 e4 e7 e10 e11
  go_enter func82, ntmps82
  go_wp2_with fail
  go_ret
  exact ⟨by rw [HR.out]; rfl, HB.out⟩
 by_cases e12 : x.k = 12
 case pos =>
  have y1 : ((x.k : Int) == 1) = false := bfn (by omega)
  have y5 : ((x.k : Int) == 5) = false := bfn (by omega)
  have y6 : ((x.k : Int) == 6) = false := bfn (by omega)
  have y4 : ((x.k : Int) == 4) = false := bfn (by omega)
  have y7 : ((x.k : Int) == 7) = false := bfn (by omega)
  have y10 : ((x.k : Int) == 10) = false := bfn (by omega)
  have y11 : ((x.k : Int) == 11) = false := bfn (by omega)
  have y12 : ((x.k : Int) == 12) = true := by simp [e12]
  have HR : Hid (R = 2) := by show _ = _; rw [← hR, if_neg e1, if_neg e5, if_neg e6, if_pos (by omega)]
  rw [hn]
  clear hR hin HL hn e1 e5 e6 e4 e7 e10 e11 e12
  go_enter func82, ntmps82
  go_wp2_with fail
  go_ret
  exact ⟨by rw [HR.out]; rfl, HB.out⟩
 by_cases e13 : x.k = 13
 case pos =>
  have y1 : ((x.k : Int) == 1) = false := bfn (by omega)
  have y5 : ((x.k : Int) == 5) = false := bfn (by omega)
  have y6 : ((x.k : Int) == 6) = false := bfn (by omega)
  have y4 : ((x.k : Int) == 4) = false := bfn (by omega)
  have y7 : ((x.k : Int) == 7) = false := bfn (by omega)
  have y10 : ((x.k : Int) == 10) = false := bfn (by omega)
  have y11 : ((x.k : Int) == 11) = false := bfn (by omega)
  have y12 : ((x.k : Int) == 12) = false := bfn (by omega)
  have y13 : ((x.k : Int) == 13) = true := by simp [e13]
  have HR : Hid (R = 2) := by show _ = _; rw [← hR, if_neg e1, if_neg e5, if_neg e6, if_pos (by omega)]
  rw [hn]
  clear hR hin HL hn e1 e5 e6 e4 e7 e10 e11 e12 e13
  go_enter func82, ntmps82
  go_wp2_with fail
  go_ret
  exact ⟨by rw [HR.out]; rfl, HB.out⟩
 have y1 : ((x.k : Int) == 1) = false := bfn (by omega)
 have y5 : ((x.k : Int) == 5) = false := bfn (by omega)
 have y6 : ((x.k : Int) == 6) = false := bfn (by omega)
 have y4 : ((x.k : Int) == 4) = false := bfn (by omega)
 have y7 : ((x.k : Int) == 7) = false := bfn (by omega)
 have y10 : ((x.k : Int) == 10) = false := bfn (by omega)
 have y11 : ((x.k : Int) == 11) = false := bfn (by omega)
 have y12 : ((x.k : Int) == 12) = false := bfn (by omega)
 have y13 : ((x.k : Int) == 13) = false := bfn (by omega)
 have HR : Hid (R = 1) := by show _ = _; rw [← hR, if_neg e1, if_neg e5, if_neg e6, if_neg (by omega)]
 rw [hn]
 clear hR hin HL hn e1 e5 e6 e4 e7 e10 e11 e12 e13
 go_enter func82, ntmps82
 go_wp2_with fail
 go_ret
 exact ⟨by rw [HR.out]; rfl, HB.out⟩
def rKnd : Rel Nat := fun _ _ cs x => cs = [.int .u8 (x : Int)] ∧ x < 256
theorem mKnd : Mono rKnd := fun _ _ _ _ _ _ _ _ h => h
theorem knd_at {K : Nat → Prop} {w : World} {q : Option Addr} {n c : Nat} {l : List Nat} (h : ListIs rKnd 1 1 K w (.slice q n c) l) (hl : 0 < l.length) : ∃ b o, q = some ⟨b, o, none⟩ ∧ K b ∧ ∀ i (hi : i < l.length), w.cell? ⟨b, o + i, none⟩ = some (.int .u8 (l[i] : Int)) ∧ l[i] < 256 := by
 obtain ⟨q', c', e, _, hp⟩ := h
 obtain ⟨b, o, rfl, hKb, hc⟩ := hp hl
 cases e
 refine ⟨b, o, rfl, hKb, fun i hi => ?_⟩
 obtain ⟨cs, _, hcell, rfl, h2⟩ := hc i hi
 have := hcell 0 _ rfl
 rw [Nat.mul_one, Nat.add_zero] at this
 exact ⟨this, h2⟩
theorem orK_at (l : List Nat) (i : Nat) (h : i < l.length) : orK (l.drop i) = if l[i] = 0 then orK (l.drop (i + 1)) else l[i] := by
 rw [List.drop_eq_getElem_cons h]
 rfl
theorem or_any (K : Nat → Prop) (q : Option Addr) (c : Nat) (l : List Nat) (w : World) (h : ListIs rKnd 1 1 K w (.slice q l.length c) l) (hK : ∀ b, K b → b < w.heap.size) :
 Calls Tryz.prog 118 #[.slice q l.length c] w fun e w' => e = .returned (.int .u8 (orK l : Int)) ∧ Bl w w' := by
 have hbig : l.length ≤ 140737488355328 := by
  obtain ⟨q', c', -, ⟨hb, -⟩, -⟩ := h
  omega
 have HL := hid h
 have HK := hid hK
 obtain ⟨R, hR⟩ := gen (orK l)
 obtain ⟨N, hN⟩ := gen l.length
 have HR : Hid (orK (l.drop 0) = R) := hR
 have HN := hid hN
 rw [hR, hN]
 rw [hN] at hbig
 clear h hK hR hN
 go_enter Tryz.func118, Tryz.ntmps118
 go_wp2_with fail
 go_loopg [8] N (fun gf s8 wx => ∃ i : Nat, s8 = .int .i64 i ∧ i ≤ N ∧ N ≤ i + gf ∧ Hid (Bl w wx) ∧ Hid (orK (l.drop i) = R))
 case atStart => exact ⟨0, rfl, by omega, by omega, Below.refl _ _, HR⟩
 case round =>
  clear HR
  obtain ⟨i, rfl, hi1, hgf, HB, HR⟩ := hrel
  by_cases hi : i < N
  · obtain ⟨g', rfl⟩ : ∃ g', gk = g' + 1 := ⟨gk - 1, by omega⟩
    have hil : i < l.length := by rw [HN.out]; exact hi
    obtain ⟨b, o, hq, _, hc⟩ := knd_at (HL.out.mono mKnd (fun _ h => h) (kept_of HK.out HB.out)) (by omega)
    subst hq
    obtain ⟨hcell, h256⟩ := hc i hil
    have hat := orK_at l i hil
    have hR := HR.out
    rw [hat] at hR
    obtain ⟨k, hk⟩ := gen (l[i])
    rw [hk] at hcell hR h256
    have z0 : (0 : Int) ≤ (i : Int) := by omega
    have z1 : (i : Int) < (N : Int) := by omega
    by_cases h0 : k = 0
    · rw [if_pos h0] at hR
      have y0 : ((k : Int) != 0) = false := by simp [h0]
      have HR2 := hid hR
      clear hc hat hR hk h0 hil HR
      go_wp2_with fail
      go_roundg g'
      case measure => omega
      case rel => exact ⟨i + 1, by go_num, by omega, by omega, HB, HR2⟩
    · rw [if_neg h0] at hR
      have y0 : ((k : Int) != 0) = true := bne_iff_ne.2 (by omega)
      have HR2 : Hid (R = k) := hR.symm
      clear hc hat hR hk h0 hil HR
      go_wp2_with fail
      go_ret
      exact ⟨by rw [HR2.out]; rfl, HB.out⟩
  · have z1 : ¬ (i : Int) < (N : Int) := by omega
    have hnil : l.drop i = [] := List.drop_of_length_le (by rw [HN.out]; omega)
    have HR2 : Hid (R = 0) := by show _ = _; rw [← HR.out, hnil]; rfl
    clear hnil HR
    go_wp2_with fail
    go_ret
    exact ⟨by rw [HR2.out]; rfl, HB.out⟩
theorem enters120 : ∀ args w, (callFunc 120 args).run prog w = .ok (.enter 120 args) w := enters_of func120 (by kernel_rfl) rfl
theorem fits1_any (m t b : Nat) (w : World) (hb : w.cell? ⟨b, 0, none⟩ = some (.int .u8 (m : Int))) :
 Calls prog 120 #[.int .u8 (t : Int), .pointer (some ⟨b, 0, none⟩)] w fun e w' => e = .returned (.bool (!mayBe m t)) ∧ Bl w w' := by
 by_cases h1 : t = m
 · have HR : Hid ((!mayBe m t) = false) := by show _ = _; unfold mayBe; rw [decide_eq_true h1]; rfl
   have y1 : ((t : Int) != (m : Int)) = false := by simp [h1]
   clear h1
   go_enter func120, ntmps120
   go_wp2_with fail
   go_ret
   exact ⟨by rw [HR.out]; rfl, Below.refl _ _⟩
 · have y1 : ((t : Int) != (m : Int)) = true := bne_iff_ne.2 (by omega)
   by_cases h0 : t = 0
   · have HR : Hid ((!mayBe m t) = false) := by show _ = _; unfold mayBe; rw [decide_eq_true h0]; simp
     have y0 : ((t : Int) != 0) = false := by simp [h0]
     clear h1 h0
     go_enter func120, ntmps120
     go_wp2_with fail
     go_ret
     exact ⟨by rw [HR.out]; rfl, Below.refl _ _⟩
   · have HR : Hid ((!mayBe m t) = true) := by show _ = _; unfold mayBe; rw [decide_eq_false h0, decide_eq_false h1]; rfl
     have y0 : ((t : Int) != 0) = true := bne_iff_ne.2 (by omega)
     clear h1 h0
     go_enter func120, ntmps120
     go_wp2_with fail
     go_ret
     exact ⟨by rw [HR.out]; rfl, Below.refl _ _⟩
theorem index_knd (K : Nat → Prop) (q : Option Addr) (c : Nat) (l : List Nat) (m b : Nat) (w : World) (h : ListIs rKnd 1 1 K w (.slice q l.length c) l) (hK : ∀ b, K b → b < w.heap.size) (hb : w.cell? ⟨b, 0, none⟩ = some (.int .u8 (m : Int))) (hbl : b < w.heap.size) :
 Calls prog 142 #[.slice q l.length c, .func (.func 120) #[] #[.pointer (some ⟨b, 0, none⟩)]] w fun e w' => ∃ k : Int, e = .returned (.int .i64 k) ∧ ((0 ≤ k ∧ l.all (mayBe m) = false) ∨ (k = -1 ∧ l.all (mayBe m) = true)) ∧ Bl w w' := by
 have hbig : l.length ≤ 140737488355328 := by
  obtain ⟨q', c', -, ⟨hb, -⟩, -⟩ := h
  omega
 have HL := hid h
 have HK := hid hK
 have HC : Hid (w.cell? ⟨b, 0, none⟩ = some (.int .u8 (m : Int)) ∧ b < w.heap.size) := ⟨hb, hbl⟩
 have eg := enters120
 obtain ⟨N, hN⟩ := gen l.length
 have HN := hid hN
 rw [hN]
 rw [hN] at hbig
 clear h hK hN hb hbl
 go_enter func142, ntmps142
 go_wp2_with fail
 go_loopg [8] N (fun gf s8 wx => ∃ (i : Nat), s8 = .int .i64 i ∧ i ≤ N ∧ N ≤ i + gf ∧ Hid (Bl w wx) ∧ Hid ((l.take i).all (mayBe m) = true))
 case atStart => exact ⟨0, rfl, by omega, by omega, Below.refl _ _, rfl⟩
 case round =>
  obtain ⟨i, rfl, hi1, hgf, HB, HA⟩ := hrel
  by_cases hi : i < N
  · obtain ⟨g', rfl⟩ : ∃ g', gk = g' + 1 := ⟨gk - 1, by omega⟩
    have hil : i < l.length := by rw [HN.out]; exact hi
    obtain ⟨b2, o, hq, _, hc⟩ := knd_at (HL.out.mono mKnd (fun _ h => h) (kept_of HK.out HB.out)) (by omega)
    subst hq
    obtain ⟨hcell, h256⟩ := hc i hil
    have htk : l.take (i + 1) = l.take i ++ [l[i]] := List.take_succ_eq_append_getElem hil
    have hmem : l[i] ∈ l := List.getElem_mem hil
    obtain ⟨k, hk⟩ := gen (l[i])
    rw [hk] at hcell h256 htk hmem
    have CC := hid (fits1_any m k b wr ((HB.out.cell (p := ⟨b, 0, none⟩) HC.out.2).trans HC.out.1))
    have HTK : Hid (l.take (i + 1) = l.take i ++ [k]) := htk
    have HM : Hid (k ∈ l) := hmem
    have z0 : (0 : Int) ≤ (i : Int) := by omega
    have z1 : (i : Int) < (N : Int) := by omega
    clear hc htk hmem hk hil
    go_wp2_with fail
    refine CC.out.mono ?_
    rintro e w3 ⟨rfl, hb3⟩
    have HB3 : Hid (Bl w w3) := HB.out.trans (hb3.mono HB.out.size)
    clear CC hcell hb3
    cases hpy : mayBe m k with
    | false =>
     have HF : Hid (l.all (mayBe m) = false) := by
      show _ = _
      cases hall : l.all (mayBe m) with
      | false => rfl
      | true => exact absurd (List.all_eq_true.1 hall k HM.out) (by rw [hpy]; simp)
     clear hpy HA
     go_wp2_with fail
     go_ret
     exact ⟨_, rfl, .inl ⟨by omega, HF.out⟩, HB3.out⟩
    | true =>
     have HA2 : Hid ((l.take (i + 1)).all (mayBe m) = true) := by
      show _ = _
      rw [HTK.out, List.all_append, HA.out]
      simp [hpy]
     clear hpy HA
     go_wp2_with fail
     go_roundg g'
     case measure => omega
     case rel => exact ⟨i + 1, by go_num, by omega, by omega, HB3, HA2⟩
  · have z1 : ¬ (i : Int) < (N : Int) := by omega
    have HF : Hid (l.all (mayBe m) = true) := by
     have := HA.out
     rwa [List.take_of_length_le (by rw [HN.out]; omega)] at this
    clear HA
    go_wp2_with fail
    go_ret
    exact ⟨_, rfl, .inr ⟨rfl, List.all_eq_true.1 HF.out⟩, HB.out⟩
theorem contains_knd (K : Nat → Prop) (q : Option Addr) (c : Nat) (l : List Nat) (m b : Nat) (w : World) (h : ListIs rKnd 1 1 K w (.slice q l.length c) l) (hK : ∀ b, K b → b < w.heap.size) (hb : w.cell? ⟨b, 0, none⟩ = some (.int .u8 (m : Int))) (hbl : b < w.heap.size) :
 Calls prog 119 #[.slice q l.length c, .func (.func 120) #[] #[.pointer (some ⟨b, 0, none⟩)]] w fun e w' => e = .returned (.bool (!l.all (mayBe m))) ∧ Bl w w' := by
 have CC := hid (index_knd K q c l m b w h hK hb hbl)
 obtain ⟨r, hr⟩ := gen (l.all (mayBe m))
 obtain ⟨N, hN⟩ := gen l.length
 rw [hr, hN] at CC
 rw [hr, hN]
 clear h hK hb hbl hr hN
 go_enter func119, ntmps119
 go_wp2_with fail
 refine CC.out.mono ?_
 rintro e w1 ⟨k, rfl, hk, hb⟩
 have HB := hid hb
 rcases hk with ⟨z, hk⟩ | ⟨rfl, hk⟩
 · subst hk
   clear hb CC
   go_wp2_with fail
   go_ret
   exact ⟨by simp [z], HB.out⟩
 · subst hk
   clear hb CC
   go_wp2_with fail
   go_ret
   exact ⟨rfl, HB.out⟩
end Go.Proofs.YtfifphfihdhlaaaGreatDoor.Bd
