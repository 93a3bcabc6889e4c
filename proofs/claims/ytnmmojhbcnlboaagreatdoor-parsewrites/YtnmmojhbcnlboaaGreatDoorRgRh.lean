/- How a query is written. -/
import Derived.Test.YtnmmojhbcnlboaaGreatDoorRf
import Derived.Deep.DeepCutAuto
namespace Go.Proofs.YtnmmojhbcnlboaaGreatDoor
open Go.Shelf Go.RowKit Go.Lib Go.Sort
set_option linter.unusedVariables false
set_option linter.unusedSimpArgs false
attribute [local go_sem ↓] Go.wp_at_zero Go.wp_at_succ
def joinL (q : Qry) : List (List UInt8) := if q.j = [] then [] else [bracketsP (wordP 0) [q.j, q.a, q.b]]
def whereL (q : Qry) : List (List UInt8) := if q.w = [] then [] else [bracketsP (wordP 1) [exprP q.w]]
def groupL (q : Qry) : List (List UInt8) := if q.g = [] then [] else [bracketsP (wordP 2) q.g]
def getL (q : Qry) : List (List UInt8) := if q.i = [] then [] else [bracketsP (wordP 3) (q.i.map writeItemP)]
def queryTextP (q : Qry) : List UInt8 := bracketsP fromP ([q.t] ++ joinL q ++ whereL q ++ groupL q ++ getL q)
def printP (q : Qry) : List UInt8 × Int := if checkQ q ≠ 0 then ([], checkQ q) else (queryTextP q, 0)
def strV (ts : List (List UInt8)) : List Value := ts.map fun t => Value.string ⟨t.toArray⟩
theorem strV_part (ts : List (List UInt8)) (j : Nat) (hj : j < ts.length) : ((strV ts).drop (j * 1)).take 1 = [.string ⟨(ts[j]).toArray⟩] := by
  unfold strV
  rw [Nat.mul_one, ← List.map_drop, List.drop_eq_getElem_cons hj]
  rfl
theorem own_texts (base : Nat) (X : World) (ts : List (List UInt8)) (hb : base ≤ X.heap.size) (hT : ∀ t ∈ ts, t.length ≤ 1000000000) (hn : ts.length ≤ 100) : OwnR rTxt 1 9 base (X.alloc (.cells (strV ts).toArray 9)) (.slice (some ⟨X.heap.size, 0, none⟩) ts.length ts.length) ts :=
  ⟨fun _ => False, strV ts, fun b h => h.elim, ⟨by simp [strV], .inr ⟨X.heap.size, ts.length, (strV ts).toArray, rfl, hb, heap_alloc_new X _, Nat.le_refl _, by unfold maxLen; omega, by simp [strV], List.take_of_length_le (by simp [strV])⟩⟩, fun j hj => ⟨strV_part ts j hj, hT _ (List.getElem_mem hj)⟩⟩
theorem list_texts (X : World) (ts : List (List UInt8)) (hT : ∀ t ∈ ts, t.length ≤ 1000000000) (hn : ts.length ≤ 100) : ListIs rTxt 1 16 (From X.heap.size (X.alloc (.cells (strV ts).toArray 9))) (X.alloc (.cells (strV ts).toArray 9)) (.slice (some ⟨X.heap.size, 0, none⟩) ts.length ts.length) ts := by
  obtain ⟨p, c, e, h⟩ := (own_texts X.heap.size X ts (Nat.le_refl _) hT hn).list mTxt (bytes := 16) (by omega)
  cases e
  exact h
theorem str_of (s : ByteArray) (l : List UInt8) (h : s.data.toList = l) : (⟨l.toArray⟩ : ByteArray) = s := by subst h; rfl
theorem wordP_len (m : Nat) : (wordP m).length ≤ 10 := by
  match m with
  | 0 => decide
  | 1 => decide
  | 2 => decide
  | 3 => decide
  | m + 4 => exact Nat.zero_le _
theorem flat_len : ∀ (l : List (List UInt8)) (m : Nat), (∀ t ∈ l, t.length ≤ m) → l.flatten.length ≤ l.length * m
  | [], m, h => by simp
  | x :: l, m, h => by
    have h1 := flat_len l m fun t ht => h t (List.mem_cons_of_mem _ ht)
    have h2 := h x (List.mem_cons_self ..)
    simp only [List.flatten_cons, List.length_append, List.length_cons, Nat.add_mul, Nat.one_mul]
    omega
set_option maxRecDepth 100000 in
set_option maxHeartbeats 16000000 in
theorem print_any (K : Nat → Prop) (pi pw pg : Option Addr) (ci cw cg : Nat) (q : Qry) (w : World) (h : QLs K w pi pw pg ci cw cg q) (hK : ∀ b, K b → b < w.heap.size) (hG : GW w) (hG2 : Glob2 w) : Calls Tryz.prog 4 #[.agg (q.cl (.slice pi q.i.length ci) (.slice pw q.w.length cw) (.slice pg q.g.length cg))] w fun e w' => e = .returned (.tuple #[.string ⟨(printP q).1.toArray⟩, .int .i64 (printP q).2]) ∧ Below w.heap.size w w' := by
  obtain ⟨s0, hs0⟩ : ∃ s : ByteArray, (⟨q.t.toArray⟩ : ByteArray) = s := ⟨_, rfl⟩
  obtain ⟨s1, hs1⟩ : ∃ s : ByteArray, (⟨q.j.toArray⟩ : ByteArray) = s := ⟨_, rfl⟩
  obtain ⟨s2, hs2⟩ : ∃ s : ByteArray, (⟨q.a.toArray⟩ : ByteArray) = s := ⟨_, rfl⟩
  obtain ⟨s3, hs3⟩ : ∃ s : ByteArray, (⟨q.b.toArray⟩ : ByteArray) = s := ⟨_, rfl⟩
  obtain ⟨ni, hni⟩ : ∃ n, q.i.length = n := ⟨_, rfl⟩
  obtain ⟨nw, hnw⟩ : ∃ n, q.w.length = n := ⟨_, rfl⟩
  obtain ⟨ng, hng⟩ : ∃ n, q.g.length = n := ⟨_, rfl⟩
  have hcl : q.cl (.slice pi q.i.length ci) (.slice pw q.w.length cw) (.slice pg q.g.length cg) = #[.slice pi ni ci, .string s0, .string s1, .string s2, .string s3, .slice pw nw cw, .slice pg ng cg] := by unfold Qry.cl; rw [hs0, hs1, hs2, hs3, hni, hnw, hng]
  have HS : Hid (s0.data.toList = q.t ∧ s1.data.toList = q.j ∧ s2.data.toList = q.a ∧ s3.data.toList = q.b) := ⟨by rw [← hs0], by rw [← hs1], by rw [← hs2], by rw [← hs3]⟩
  have HN : Hid (q.i.length = ni ∧ q.w.length = nw ∧ q.g.length = ng) := ⟨hni, hnw, hng⟩
  obtain ⟨W0, hW0⟩ : ∃ W0, w.alloc (.cells #[.slice pi ni ci, .string s0, .string s1, .string s2, .string s3, .slice pw nw cw, .slice pg ng cg] 26) = W0 := ⟨_, rfl⟩
  have hb0 : Below w.heap.size w W0 := by rw [← hW0]; exact below_alloc _ _
  have hg0 : W0.heap[w.heap.size]? = some (.cells #[.slice pi ni ci, .string s0, .string s1, .string s2, .string s3, .slice pw nw cw, .slice pg ng cg] 26 (0, 0)) := by rw [← hW0]; exact heap_alloc_new w _
  have HQ := hid (h.below hK hb0)
  have HK0 : Hid (∀ b, K b → b < W0.heap.size) := fun b hb => Nat.lt_of_lt_of_le (hK b hb) hb0.size
  have HG := hid (hG.below hb0)
  have HG2 := hid (hG2.below hb0)
  have HB := hid hb0
  have HGC := hid hg0
  rw [hcl]
  clear h hK hG hG2 hb0 hg0 hs0 hs1 hs2 hs3 hni hnw hng hcl
  have hl0 : w.heap.size < W0.heap.size := (Array.getElem?_eq_some_iff.1 HGC.out).1
  have HL : Hid (∀ V, Below W0.heap.size W0 V → V.rangeAt w.heap.size 0 [.slice pi ni ci, .string s0, .string s1, .string s2, .string s3, .slice pw nw cw, .slice pg ng cg] ∧ V.cell? ⟨w.heap.size, 0, none⟩ = some (.slice pi ni ci) ∧ V.cell? ⟨w.heap.size, 1, none⟩ = some (.string s0) ∧ V.cell? ⟨w.heap.size, 2, none⟩ = some (.string s1) ∧ V.cell? ⟨w.heap.size, 3, none⟩ = some (.string s2) ∧ V.cell? ⟨w.heap.size, 4, none⟩ = some (.string s3) ∧ V.cell? ⟨w.heap.size, 5, none⟩ = some (.slice pw nw cw) ∧ V.cell? ⟨w.heap.size, 6, none⟩ = some (.slice pg ng cg)) := fun V hb => by
    have hg := (hb.block _ hl0).trans HGC.out
    exact ⟨fun j u hu => by rw [Nat.zero_add]; exact cell_of_row hg (by simpa using hu), cell_of_row hg rfl, cell_of_row hg rfl, cell_of_row hg rfl, cell_of_row hg rfl, cell_of_row hg rfl, cell_of_row hg rfl, cell_of_row hg rfl⟩
  have hqc : q.cl (.slice pi q.i.length ci) (.slice pw q.w.length cw) (.slice pg q.g.length cg) = #[.slice pi ni ci, .string s0, .string s1, .string s2, .string s3, .slice pw nw cw, .slice pg ng cg] := by
    unfold Qry.cl
    rw [str_of s0 _ HS.out.1, str_of s1 _ HS.out.2.1, str_of s2 _ HS.out.2.2.1, str_of s3 _ HS.out.2.2.2, HN.out.1, HN.out.2.1, HN.out.2.2]
  obtain ⟨cq, hcq⟩ : ∃ cq, checkQ q = cq := ⟨_, rfl⟩
  have C0 : Hid (Calls Tryz.prog 11 #[.agg #[.slice pi ni ci, .string s0, .string s1, .string s2, .string s3, .slice pw nw cw, .slice pg ng cg]] W0 fun e w' => e = .returned (.int .i64 cq) ∧ Below W0.heap.size W0 w') := by have := check_any K pi pw pg ci cw cg q W0 HQ.out HK0.out HG.out; rw [hqc, hcq] at this; exact this
  have HR0 := hid (HL.out W0 (Below.refl _ _)).1
  have HLATER : Hid (∀ V, Below W0.heap.size W0 V → QLs K V pi pw pg ci cw cg q ∧ (∀ b, K b → b < V.heap.size) ∧ GW V ∧ Glob2 V ∧ Below w.heap.size w V) := fun V hb => ⟨HQ.out.below HK0.out hb, fun b h => Nat.lt_of_lt_of_le (HK0.out b h) hb.size, HG.out.below hb, HG2.out.below hb, HB.out.trans (hb.mono HB.out.size)⟩
  obtain ⟨i0, hi0, hz0, hz1, hz2⟩ := inE_str
  by_cases hc0 : cq = 0
  · have yc : (cq != 0) = false := by simp [hc0]
    have hok : queryOkP q = true := by
      cases hq : queryOkP q with
      | true => rfl
      | false => rw [hc0] at hcq; unfold checkQ at hcq; rw [hq] at hcq; cases hcq
    have HP : Hid (printP q = (queryTextP q, 0)) := by show _ = _; unfold printP; rw [hcq, if_neg (by simpa using hc0)]
    unfold queryOkP at hok
    simp only [Bool.and_eq_true] at hok
    obtain ⟨_, _, hwo, hio, hgo⟩ := hok
    have HW : Hid (q.w = [] ∨ rightP q.w = true) := by
      show _ ∨ _
      unfold whereOkP at hwo
      rcases (Bool.or_eq_true _ _).mp hwo with h | h
      · exact .inl (of_decide_eq_true h)
      · exact .inr h
    have HI : Hid (q.i.length ≤ 8 ∧ ∀ x ∈ q.i, itemOkP x = true) := by
      show _ ∧ _
      unfold itemsOkP at hio
      split at hio
      · cases hio
      · exact ⟨by omega, List.all_eq_true.1 hio⟩
    have HGR : Hid (q.g.length ≤ 8) := by
      show _ ≤ _
      unfold groupOkP at hgo
      split at hgo
      · cases hgo
      · omega
    rw [show (printP q).1 = queryTextP q by rw [HP.out], show (printP q).2 = 0 by rw [HP.out]]
    clear hwo hio hgo hcq hqc HP HQ HK0 HG HG2 HGC hl0
    go_enter Tryz.func4, Tryz.ntmps4
    go_wp2_with (refine wpList_load_mid rfl 26 _ rfl w.heap.size 0 rfl _ _ HR0.out Tryz.underlying26 rfl sz_qry ?_)
    refine C0.out.mono ?_
    rintro e w1 ⟨rfl, hb1⟩
    obtain ⟨_, _, d1, _, _, _, _, _⟩ := HL.out w1 hb1
    obtain ⟨W2, hW2⟩ : ∃ W2, w1.alloc (.cells #[.string ⟨#[102, 114, 111, 109]⟩, .string s0] 9) = W2 := ⟨_, rfl⟩
    have HBX : Hid (Below W0.heap.size W0 W2) := by show Below _ _ _; rw [← hW2]; exact hb1.alloc hb1.size _
    have HOX : Hid (OwnR rTxt 1 9 W0.heap.size W2 (.slice (some ⟨w1.heap.size, 0, none⟩) 2 2) ([fromP, q.t])) := by
      have h1 := own_texts W0.heap.size w1 [fromP, q.t] hb1.size (by intro t ht; simp at ht; rcases ht with rfl | rfl; simp [fromP]; have := (HLATER.out w1 hb1).1.lt; omega) (by simp)
      rw [show strV [fromP, q.t] = [.string ⟨#[102, 114, 111, 109]⟩, .string s0] by unfold strV; simp only [List.map_cons, List.map_nil]; rw [str_of s0 _ HS.out.1]; rfl] at h1
      have h2 : OwnR rTxt 1 9 W0.heap.size (w1.alloc (.cells #[.string ⟨#[102, 114, 111, 109]⟩, .string s0] 9)) (.slice (some ⟨w1.heap.size, 0, none⟩) 2 2) [fromP, q.t] := h1
      rw [hW2] at h2
      exact h2
    clear C0 hb1 HR0
    obtain ⟨-, -, -, f2c, -, -, -, -⟩ := HL.out W2 HBX.out
    go_upto_if 16 with fail
    clear f2c
    go_cut [5] (fun s5 wx => ∃ (a : Option Addr) (n c : Nat), s5 = .slice a n c ∧ Hid (Below W0.heap.size W0 wx) ∧ Hid (OwnR rTxt 1 9 W0.heap.size wx (.slice a n c) ([fromP, q.t] ++ joinL q)) ∧ Hid (n ≤ 3))
    case first =>
      obtain ⟨-, -, -, e2c, e3c, e4c, -, -⟩ := HL.out W2 HBX.out
      have HNX : Hid (([fromP, q.t] : List (List UInt8)).length = 2 ∧ 2 ≤ 2) := ⟨(ownForm HOX.out).1.symm, Nat.le_refl _⟩
      by_cases hj : q.j = []
      · have t1 : (s1.toList == (⟨#[]⟩ : ByteArray).toList) = true := by rw [Lib.toList_data, HS.out.2.1, hj, empty_toList]; rfl
        have t2 : (s1.toList == []) = true := by rw [Lib.toList_data, HS.out.2.1, hj]; rfl
        have t3 : (s1.toList != (⟨#[]⟩ : ByteArray).toList) = false := by rw [Lib.toList_data, HS.out.2.1, hj, empty_toList]; rfl
        have t4 : (s1.toList != []) = false := by rw [Lib.toList_data, HS.out.2.1, hj]; rfl
        have t5 : s1.toList.isEmpty = true := by rw [Lib.toList_data, HS.out.2.1, hj]; rfl
        have HEQ : Hid ([fromP, q.t] ++ joinL q = [fromP, q.t]) := by show _ = _; unfold joinL; rw [if_pos hj, List.append_nil]
        clear hj
        simp only [t5, Bool.not_true, Bool.not_false]
        go_wp2_with fail
        go_meet
        case rel => exact ⟨_, _, _, rfl, HBX, by show OwnR _ _ _ _ _ _ _; rw [HEQ.out]; exact HOX.out, by show _ ≤ _; omega⟩
      · have t1 : (s1.toList == (⟨#[]⟩ : ByteArray).toList) = false := by rw [Lib.toList_data, HS.out.2.1, empty_toList]; exact beq_eq_false_iff_ne.2 hj
        have t2 : (s1.toList == []) = false := by rw [Lib.toList_data, HS.out.2.1]; exact beq_eq_false_iff_ne.2 hj
        have t3 : (s1.toList != (⟨#[]⟩ : ByteArray).toList) = true := by rw [Lib.toList_data, HS.out.2.1, empty_toList]; exact bne_iff_ne.2 hj
        have t4 : (s1.toList != []) = true := by rw [Lib.toList_data, HS.out.2.1]; exact bne_iff_ne.2 hj
        have t5 : s1.toList.isEmpty = false := by rw [Lib.toList_data, HS.out.2.1]; cases hh : q.j with | nil => exact absurd hh hj | cons _ _ => rfl
        obtain ⟨T, hT⟩ : ∃ T, bracketsP (wordP 0) [q.j, q.a, q.b] = T := ⟨_, rfl⟩
        obtain ⟨S, hS⟩ : ∃ S : ByteArray, (⟨T.toArray⟩ : ByteArray) = S := ⟨_, rfl⟩
        obtain ⟨W3, hW3⟩ : ∃ W3, W2.alloc (.cells #[.string s1, .string s2, .string s3] 9) = W3 := ⟨_, rfl⟩
        have hb3 : Below W0.heap.size W0 W3 := by rw [← hW3]; exact HBX.out.alloc HBX.out.size _
        have hb23 : Below W2.heap.size W2 W3 := by rw [← hW3]; exact below_alloc _ _
        have HT9 : Hid (T.length ≤ 1000000000 ∧ (⟨T.toArray⟩ : ByteArray) = S) := ⟨by rw [← hT, bracketsP_len]; have h1 := wordP_len 0; have h2 := (HLATER.out W3 hb3).1; have h3 := h2.lj; have h4 := h2.la; have h5 := h2.lb; simp; omega, hS⟩
        have C : Hid (Calls Tryz.prog 15 #[.string ⟨#[106, 111, 105, 110]⟩, .slice (some ⟨W2.heap.size, 0, none⟩) 3 3] W3 fun e w' => e = .returned (.string S) ∧ Below W3.heap.size W3 w') := by
          have h2 := (HLATER.out W3 hb3).1
          have hl := list_texts W2 [q.j, q.a, q.b] (by intro t ht; have h3 := h2.lj; have h4 := h2.la; have h5 := h2.lb; simp at ht; rcases ht with rfl | rfl | rfl <;> omega) (by simp)
          have h1 := brackets_any _ (wordP 0) _ _ [q.j, q.a, q.b] _ hl (fun b h => h.2) (by simp) (by have := wordP_len 0; omega)
          rw [show strV [q.j, q.a, q.b] = [.string s1, .string s2, .string s3] by unfold strV; simp only [List.map_cons, List.map_nil]; rw [str_of s1 _ HS.out.2.1, str_of s2 _ HS.out.2.2.1, str_of s3 _ HS.out.2.2.2]] at h1
          have h3 : Calls Tryz.prog 15 #[.string ⟨#[106, 111, 105, 110]⟩, .slice (some ⟨W2.heap.size, 0, none⟩) 3 3] (W2.alloc (.cells #[.string s1, .string s2, .string s3] 9)) fun e w' => e = .returned (.string ⟨(bracketsP (wordP 0) [q.j, q.a, q.b]).toArray⟩) ∧ Below (W2.alloc (.cells #[.string s1, .string s2, .string s3] 9)).heap.size (W2.alloc (.cells #[.string s1, .string s2, .string s3] 9)) w' := h1
          rw [hW3, hT, hS] at h3
          exact h3
        have HEQ : Hid ([fromP, q.t] ++ joinL q = [fromP, q.t] ++ [T]) := by show _ = _; unfold joinL; rw [if_neg hj, hT]
        have HO3 := hid (HOX.out.keep mTxt hb23)
        have HB3 := hid hb3
        clear hb3 hb23 hT hS hj HOX HBX
        simp only [t5, Bool.not_true, Bool.not_false]
        go_wp2_with fail
        refine C.out.mono ?_
        rintro e w4 ⟨rfl, hb4⟩
        have HB9 : Hid (Below W0.heap.size W0 w4) := HB3.out.trans (hb4.mono HB3.out.size)
        have HO9 := hid (HO3.out.keep mTxt hb4)
        clear C hb4 HB3 HO3 e2c e3c e4c t1 t2 t3 t4 t5
        obtain ⟨v', X2, e2, ho2, hB2, hs2, hk2⟩ := HO9.out.push mTxt (bytes := 16) (ts := 24) Tryz.underlying24 hi0 hz0 hz1 hz2 rfl (by omega) (by have := HB9.out.size; omega) (x := T) (cs := [.string S]) (K2 := fun _ => False) rfl (by intro c hc; simp at hc; subst hc; rfl) (fun b hb => hb.elim) ⟨by rw [← HT9.out.2], HT9.out.1⟩ (by rw [HNX.out.1]; have := HNX.out.2; omega) (by rw [HNX.out.1]; unfold maxLen; have := HNX.out.2; omega)
        have HBN : Hid (Below W0.heap.size W0 X2) := hB2 _ _ HB9.out (Nat.le_refl _)
        obtain ⟨a', c', ev⟩ := ho2.slice
        rw [List.length_append, HNX.out.1] at ev
        have ev2 : v' = .slice a' 3 c' := ev
        subst ev2
        have HON : Hid (OwnR rTxt 1 9 W0.heap.size X2 (.slice a' 3 c') ([fromP, q.t] ++ joinL q)) := by
          show OwnR _ _ _ _ _ _ _
          rw [HEQ.out]
          exact ho2
        clear ho2 hB2 hs2 hk2 ev HO9 HB9 
        go_wp2_with (at_builtin; refine Lib.wpList_append_run _ rfl _ _ _ _ rfl (.slice (some ⟨w1.heap.size, 0, none⟩) 2 2) (.slice (some ⟨w4.heap.size, 0, none⟩) 1 1) rfl rfl _ _ e2 ?_)
        go_meet
        case rel => exact ⟨_, _, _, rfl, HBN, HON, by show _ ≤ _; omega⟩
    case rest =>
      clear HBX HOX hW2 d1
      obtain ⟨ax, nn, cx, rfl, HBX, HOX, HNL⟩ := hcut
      obtain ⟨-, -, -, -, -, -, f5c, -⟩ := HL.out wc HBX.out
      go_upto_if 31 with fail
      clear f5c
      go_cut [5] (fun s5 wx => ∃ (a : Option Addr) (n c : Nat), s5 = .slice a n c ∧ Hid (Below W0.heap.size W0 wx) ∧ Hid (OwnR rTxt 1 9 W0.heap.size wx (.slice a n c) ([fromP, q.t] ++ joinL q ++ whereL q)) ∧ Hid (n ≤ 4))
      case first =>
        obtain ⟨-, -, -, -, -, -, e5c, -⟩ := HL.out wc HBX.out
        have HNX : Hid (([fromP, q.t] ++ joinL q : List (List UInt8)).length = nn ∧ nn ≤ 3) := ⟨(ownForm HOX.out).1.symm, HNL.out⟩
        have hz := len_zero q.w
        rw [HN.out.2.1] at hz
        by_cases hj : nw = 0
        · have t1 : ¬ (0 : Int) < (nw : Int) := by omega
          have t2 : decide (0 < nw) = false := decide_eq_false (by omega)
          have HEQ : Hid ([fromP, q.t] ++ joinL q ++ whereL q = [fromP, q.t] ++ joinL q) := by show _ = _; unfold whereL; rw [if_pos (hz.1 hj), List.append_nil]
          clear hz hj
          go_wp2_with fail
          go_meet
          case rel => exact ⟨_, _, _, rfl, HBX, by show OwnR _ _ _ _ _ _ _; rw [HEQ.out]; exact HOX.out, by show _ ≤ _; have := HNL.out; omega⟩
        · have t1 : (0 : Int) < (nw : Int) := by omega
          have t2 : decide (0 < nw) = true := decide_eq_true (by omega)
          have hne : q.w ≠ [] := fun h => hj (hz.2 h)
          have hrp : rightP q.w = true := by rcases HW.out with h | h; exact absurd h hne; exact h
          obtain ⟨E, hE⟩ : ∃ E, exprP q.w = E := ⟨_, rfl⟩
          obtain ⟨SE, hSE⟩ : ∃ S : ByteArray, (⟨E.toArray⟩ : ByteArray) = S := ⟨_, rfl⟩
          obtain ⟨T, hT⟩ : ∃ T, bracketsP (wordP 1) [E] = T := ⟨_, rfl⟩
          obtain ⟨S, hS⟩ : ∃ S : ByteArray, (⟨T.toArray⟩ : ByteArray) = S := ⟨_, rfl⟩
          obtain ⟨hq5, hk5, hg5, hg52, _⟩ := HLATER.out wc HBX.out
          have C : Hid (Calls Tryz.prog 16 #[.slice pw nw cw] wc fun e w' => (e = .returned (.string SE) ∧ E.length ≤ 20000000) ∧ Below wc.heap.size wc w') := by have := writeExpr_any K pw cw q.w wc hq5.lw hk5 hg5 hg52 hrp; rw [HN.out.2.1, hE, hSE] at this; exact this
          have HC2 : Hid (E.length ≤ 20000000 → ∀ V : World, T.length ≤ 1000000000 ∧ Calls Tryz.prog 15 #[.string ⟨#[119, 104, 101, 114, 101]⟩, .slice (some ⟨V.heap.size, 0, none⟩) 1 1] (V.alloc (.cells #[.string SE] 9)) fun e w' => e = .returned (.string S) ∧ Below (V.alloc (.cells #[.string SE] 9)).heap.size (V.alloc (.cells #[.string SE] 9)) w') := fun hl V => by
            refine ⟨by rw [← hT, bracketsP_len]; have h1 := wordP_len 1; simp; omega, ?_⟩
            have h1 := brackets_any _ (wordP 1) (some ⟨V.heap.size, 0, none⟩) 1 [E] _ (one_text V E SE hSE (by omega)) (fun b h => by rw [h]; simp) (by simp) (by have := wordP_len 1; omega)
            rw [hT, hS] at h1
            exact h1
          have HEQ : Hid ([fromP, q.t] ++ joinL q ++ whereL q = [fromP, q.t] ++ joinL q ++ [T]) := by show _ = _; unfold whereL; rw [if_neg hne, hE, hT]
          have HSS := hid hS
          clear hz hne hrp hE hSE hT hS hq5 hk5 hg5 hg52 hj
          go_wp2_with fail
          refine C.out.mono ?_
          rintro e w4 ⟨⟨rfl, hlen⟩, hb4⟩
          obtain ⟨hT9, hC2⟩ := HC2.out hlen w4
          obtain ⟨W5, hW5⟩ : ∃ W5, w4.alloc (.cells #[.string SE] 9) = W5 := ⟨_, rfl⟩
          rw [hW5] at hC2
          have C2 := hid hC2
          have HT9 : Hid (T.length ≤ 1000000000 ∧ (⟨T.toArray⟩ : ByteArray) = S) := ⟨hT9, HSS.out⟩
          have hb45 : Below w4.heap.size w4 W5 := by rw [← hW5]; exact below_alloc _ _
          have hbc5 : Below wc.heap.size wc W5 := hb4.trans (hb45.mono hb4.size)
          have HB5 : Hid (Below W0.heap.size W0 W5) := HBX.out.trans (hbc5.mono HBX.out.size)
          have HO5 := hid (HOX.out.keep mTxt hbc5)
          clear C HC2 hlen hT9 hC2 hb4 hb45 hbc5 HSS HOX HBX e5c
          go_wp2_with fail
          refine C2.out.mono ?_
          rintro e w6 ⟨rfl, hb6⟩
          have HB9 : Hid (Below W0.heap.size W0 w6) := HB5.out.trans (hb6.mono HB5.out.size)
          have HO9 := hid (HO5.out.keep mTxt hb6)
          clear C2 hb6 HB5 HO5 hW5
          obtain ⟨v', X2, e2, ho2, hB2, hs2, hk2⟩ := HO9.out.push mTxt (bytes := 16) (ts := 24) Tryz.underlying24 hi0 hz0 hz1 hz2 rfl (by omega) (by have := HB9.out.size; omega) (x := T) (cs := [.string S]) (K2 := fun _ => False) rfl (by intro c hc; simp at hc; subst hc; rfl) (fun b hb => hb.elim) ⟨by rw [← HT9.out.2], HT9.out.1⟩ (by rw [HNX.out.1]; have := HNX.out.2; omega) (by rw [HNX.out.1]; unfold maxLen; have := HNX.out.2; omega)
          have HBN : Hid (Below W0.heap.size W0 X2) := hB2 _ _ HB9.out (Nat.le_refl _)
          obtain ⟨a', c', ev⟩ := ho2.slice
          rw [List.length_append, HNX.out.1] at ev
          have ev2 : v' = .slice a' (nn + 1) c' := ev
          subst ev2
          have HON : Hid (OwnR rTxt 1 9 W0.heap.size X2 (.slice a' (nn + 1) c') ([fromP, q.t] ++ joinL q ++ whereL q)) := by
            show OwnR _ _ _ _ _ _ _
            rw [HEQ.out]
            exact ho2
          clear ho2 hB2 hs2 hk2 ev HO9 HB9 HT9
          go_wp2_with (at_builtin; refine Lib.wpList_append_run _ rfl _ _ _ _ rfl (.slice ax nn cx) (.slice (some ⟨w6.heap.size, 0, none⟩) 1 1) rfl rfl _ _ e2 ?_)
          go_meet
          case rel => exact ⟨_, _, _, rfl, HBN, HON, by show _ ≤ _; have := HNL.out; omega⟩
      case rest =>
        clear HBX HOX HNL
        obtain ⟨ax, nn, cx, rfl, HBX, HOX, HNL⟩ := hcut
        obtain ⟨-, -, -, -, -, -, -, f6c⟩ := HL.out wc HBX.out
        go_upto_if 43 with fail
        clear f6c
        go_cut [5] (fun s5 wx => ∃ (a : Option Addr) (n c : Nat), s5 = .slice a n c ∧ Hid (Below W0.heap.size W0 wx) ∧ Hid (OwnR rTxt 1 9 W0.heap.size wx (.slice a n c) ([fromP, q.t] ++ joinL q ++ whereL q ++ groupL q)) ∧ Hid (n ≤ 5))
        case first =>
          obtain ⟨-, -, -, -, -, -, -, e6c⟩ := HL.out wc HBX.out
          have HNX : Hid (([fromP, q.t] ++ joinL q ++ whereL q : List (List UInt8)).length = nn ∧ nn ≤ 4) := ⟨(ownForm HOX.out).1.symm, HNL.out⟩
          have hz := len_zero q.g
          rw [HN.out.2.2] at hz
          by_cases hj : ng = 0
          · have t1 : ¬ (0 : Int) < (ng : Int) := by omega
            have t2 : decide (0 < ng) = false := decide_eq_false (by omega)
            have HEQ : Hid ([fromP, q.t] ++ joinL q ++ whereL q ++ groupL q = [fromP, q.t] ++ joinL q ++ whereL q) := by show _ = _; unfold groupL; rw [if_pos (hz.1 hj), List.append_nil]
            clear hz hj
            go_wp2_with fail
            go_meet
            case rel => exact ⟨_, _, _, rfl, HBX, by show OwnR _ _ _ _ _ _ _; rw [HEQ.out]; exact HOX.out, by show _ ≤ _; have := HNL.out; omega⟩
          · have t1 : (0 : Int) < (ng : Int) := by omega
            have t2 : decide (0 < ng) = true := decide_eq_true (by omega)
            have hne : q.g ≠ [] := fun h => hj (hz.2 h)
            obtain ⟨T, hT⟩ : ∃ T, bracketsP (wordP 2) q.g = T := ⟨_, rfl⟩
            obtain ⟨S, hS⟩ : ∃ S : ByteArray, (⟨T.toArray⟩ : ByteArray) = S := ⟨_, rfl⟩
            obtain ⟨hq5, hk5, _, _, _⟩ := HLATER.out wc HBX.out
            have C : Hid (Calls Tryz.prog 15 #[.string ⟨#[103, 114, 111, 117, 112]⟩, .slice pg ng cg] wc fun e w' => e = .returned (.string S) ∧ Below wc.heap.size wc w') := by
              have h1 := brackets_any K (wordP 2) pg cg q.g wc (str_txt hq5.lg) hk5 (by have := HGR.out; omega) (by have := wordP_len 2; omega)
              rw [HN.out.2.2, hT, hS] at h1
              exact h1
            have HT9 : Hid (T.length ≤ 1000000000 ∧ (⟨T.toArray⟩ : ByteArray) = S) := by
              refine ⟨?_, hS⟩
              rw [← hT, bracketsP_len]
              have h1 := wordP_len 2
              have h2 := flat_len q.g 100000 (fun t ht => by
                obtain ⟨j, hj, rfl⟩ := List.getElem_of_mem ht
                exact str_len hq5.lg j hj)
              have h3 := HGR.out
              omega
            have HEQ : Hid ([fromP, q.t] ++ joinL q ++ whereL q ++ groupL q = [fromP, q.t] ++ joinL q ++ whereL q ++ [T]) := by show _ = _; unfold groupL; rw [if_neg hne, hT]
            clear hz hne hT hS hq5 hk5 hj
            go_wp2_with fail
            refine C.out.mono ?_
            rintro e w6 ⟨rfl, hb6⟩
            have HB9 : Hid (Below W0.heap.size W0 w6) := HBX.out.trans (hb6.mono HBX.out.size)
            have HO9 := hid (HOX.out.keep mTxt hb6)
            clear C hb6 HBX HOX e6c
            obtain ⟨v', X2, e2, ho2, hB2, hs2, hk2⟩ := HO9.out.push mTxt (bytes := 16) (ts := 24) Tryz.underlying24 hi0 hz0 hz1 hz2 rfl (by omega) (by have := HB9.out.size; omega) (x := T) (cs := [.string S]) (K2 := fun _ => False) rfl (by intro c hc; simp at hc; subst hc; rfl) (fun b hb => hb.elim) ⟨by rw [← HT9.out.2], HT9.out.1⟩ (by rw [HNX.out.1]; have := HNX.out.2; omega) (by rw [HNX.out.1]; unfold maxLen; have := HNX.out.2; omega)
            have HBN : Hid (Below W0.heap.size W0 X2) := hB2 _ _ HB9.out (Nat.le_refl _)
            obtain ⟨a', c', ev⟩ := ho2.slice
            rw [List.length_append, HNX.out.1] at ev
            have ev2 : v' = .slice a' (nn + 1) c' := ev
            subst ev2
            have HON : Hid (OwnR rTxt 1 9 W0.heap.size X2 (.slice a' (nn + 1) c') ([fromP, q.t] ++ joinL q ++ whereL q ++ groupL q)) := by
              show OwnR _ _ _ _ _ _ _
              rw [HEQ.out]
              exact ho2
            clear ho2 hB2 hs2 hk2 ev HO9 HB9 HT9
            go_wp2_with (at_builtin; refine Lib.wpList_append_run _ rfl _ _ _ _ rfl (.slice ax nn cx) (.slice (some ⟨w6.heap.size, 0, none⟩) 1 1) rfl rfl _ _ e2 ?_)
            go_meet
            case rel => exact ⟨_, _, _, rfl, HBN, HON, by show _ ≤ _; have := HNL.out; omega⟩
        case rest =>
          clear HBX HOX HNL
          obtain ⟨ax, nn, cx, rfl, HBX, HOX, HNL⟩ := hcut
          obtain ⟨-, f0c, -, -, -, -, -, -⟩ := HL.out wc HBX.out
          go_upto_if 53 with fail
          clear f0c
          go_cut [5] (fun s5 wx => ∃ (a : Option Addr) (n c : Nat), s5 = .slice a n c ∧ Hid (Below W0.heap.size W0 wx) ∧ Hid (OwnR rTxt 1 9 W0.heap.size wx (.slice a n c) ([fromP, q.t] ++ joinL q ++ whereL q ++ groupL q ++ getL q)) ∧ Hid (n ≤ 6))
          case first =>
            obtain ⟨-, e0c, -, -, -, -, -, -⟩ := HL.out wc HBX.out
            have HNX : Hid (([fromP, q.t] ++ joinL q ++ whereL q ++ groupL q : List (List UInt8)).length = nn ∧ nn ≤ 5) := ⟨(ownForm HOX.out).1.symm, HNL.out⟩
            have hz := len_zero q.i
            rw [HN.out.1] at hz
            by_cases hj : ni = 0
            · have t1 : ¬ (0 : Int) < (ni : Int) := by omega
              have t2 : decide (0 < ni) = false := decide_eq_false (by omega)
              have HEQ : Hid ([fromP, q.t] ++ joinL q ++ whereL q ++ groupL q ++ getL q = [fromP, q.t] ++ joinL q ++ whereL q ++ groupL q) := by show _ = _; unfold getL; rw [if_pos (hz.1 hj), List.append_nil]
              clear hz hj
              go_wp2_with fail
              go_meet
              case rel => exact ⟨_, _, _, rfl, HBX, by show OwnR _ _ _ _ _ _ _; rw [HEQ.out]; exact HOX.out, by show _ ≤ _; have := HNL.out; omega⟩
            · have t1 : (0 : Int) < (ni : Int) := by omega
              have t2 : decide (0 < ni) = true := decide_eq_true (by omega)
              have hne : q.i ≠ [] := fun h => hj (hz.2 h)
              obtain ⟨ws, hws⟩ : ∃ ws, q.i.map writeItemP = ws := ⟨_, rfl⟩
              obtain ⟨T, hT⟩ : ∃ T, bracketsP (wordP 3) ws = T := ⟨_, rfl⟩
              obtain ⟨S, hS⟩ : ∃ S : ByteArray, (⟨T.toArray⟩ : ByteArray) = S := ⟨_, rfl⟩
              obtain ⟨hq5, hk5, hg5, hg52, _⟩ := HLATER.out wc HBX.out
              have C : Hid (Calls Tryz.prog 17 #[.slice pi ni ci] wc fun e w' => (∃ a cc, e = .returned (.slice a ni cc) ∧ OwnR rTxt 1 9 wc.heap.size w' (.slice a ni cc) ws ∧ ∀ t ∈ ws, t.length ≤ 30000000) ∧ Below wc.heap.size wc w') := by have := writeItems_any K pi ci q.i wc hq5.li hk5 hg5 hg52 HI.out.2 HI.out.1; rw [HN.out.1, hws] at this; exact this
              have HWL : Hid (ws.length = ni ∧ ni ≤ 8) := ⟨by rw [← hws, List.length_map]; exact HN.out.1, by have := HI.out.1; have := HN.out.1; omega⟩
              have HEQ : Hid ([fromP, q.t] ++ joinL q ++ whereL q ++ groupL q ++ getL q = [fromP, q.t] ++ joinL q ++ whereL q ++ groupL q ++ [T]) := by show _ = _; unfold getL; rw [if_neg hne, hws, hT]
              have HTS := hid (And.intro hT hS)
              clear hz hne hws hT hS hq5 hk5 hg5 hg52 hj
              go_wp2_with fail
              refine C.out.mono ?_
              rintro e w4 ⟨⟨aw, cw4, rfl, how, hlen⟩, hb4⟩
              obtain ⟨p4, c4, e4, hl4⟩ := how.list mTxt (bytes := 16) (by have := HWL.out; omega)
              rw [HWL.out.1] at e4
              simp only [Value.slice.injEq] at e4
              obtain ⟨e41, -, e43⟩ := e4
              subst e41
              subst e43
              have C2 : Hid (Calls Tryz.prog 15 #[.string ⟨#[103, 101, 116]⟩, .slice aw ni cw4] w4 fun e w' => e = .returned (.string S) ∧ Below w4.heap.size w4 w') := by
                have h1 := brackets_any _ (wordP 3) aw cw4 ws w4 hl4 (fun b h => h.2) (by have := HWL.out; omega) (by have := wordP_len 3; omega)
                rw [HWL.out.1, HTS.out.1, HTS.out.2] at h1
                exact h1
              have HT9 : Hid (T.length ≤ 1000000000 ∧ (⟨T.toArray⟩ : ByteArray) = S) := by
                refine ⟨?_, HTS.out.2⟩
                rw [← HTS.out.1, bracketsP_len]
                have h1 := wordP_len 3
                have h2 := flat_len ws 30000000 hlen
                have h3 := HWL.out
                omega
              have HB5 : Hid (Below W0.heap.size W0 w4) := HBX.out.trans (hb4.mono HBX.out.size)
              have HO5 := hid (HOX.out.keep mTxt hb4)
              clear C how hlen hb4 hl4 HWL HTS HOX HBX e0c
              go_wp2_with fail
              refine C2.out.mono ?_
              rintro e w6 ⟨rfl, hb6⟩
              have HB9 : Hid (Below W0.heap.size W0 w6) := HB5.out.trans (hb6.mono HB5.out.size)
              have HO9 := hid (HO5.out.keep mTxt hb6)
              clear C2 hb6 HB5 HO5
              obtain ⟨v', X2, e2, ho2, hB2, hs2, hk2⟩ := HO9.out.push mTxt (bytes := 16) (ts := 24) Tryz.underlying24 hi0 hz0 hz1 hz2 rfl (by omega) (by have := HB9.out.size; omega) (x := T) (cs := [.string S]) (K2 := fun _ => False) rfl (by intro c hc; simp at hc; subst hc; rfl) (fun b hb => hb.elim) ⟨by rw [← HT9.out.2], HT9.out.1⟩ (by rw [HNX.out.1]; have := HNX.out.2; omega) (by rw [HNX.out.1]; unfold maxLen; have := HNX.out.2; omega)
              have HBN : Hid (Below W0.heap.size W0 X2) := hB2 _ _ HB9.out (Nat.le_refl _)
              obtain ⟨a', c', ev⟩ := ho2.slice
              rw [List.length_append, HNX.out.1] at ev
              have ev2 : v' = .slice a' (nn + 1) c' := ev
              subst ev2
              have HON : Hid (OwnR rTxt 1 9 W0.heap.size X2 (.slice a' (nn + 1) c') ([fromP, q.t] ++ joinL q ++ whereL q ++ groupL q ++ getL q)) := by
                show OwnR _ _ _ _ _ _ _
                rw [HEQ.out]
                exact ho2
              clear ho2 hB2 hs2 hk2 ev HO9 HB9 HT9
              go_wp2_with (at_builtin; refine Lib.wpList_append_run _ rfl _ _ _ _ rfl (.slice ax nn cx) (.slice (some ⟨w6.heap.size, 0, none⟩) 1 1) rfl rfl _ _ e2 ?_)
              go_meet
              case rel => exact ⟨_, _, _, rfl, HBN, HON, by show _ ≤ _; have := HNL.out; omega⟩
          case rest =>
            clear HBX HOX HNL
            obtain ⟨ax, nn, cx, rfl, HBX, HOX, HNL⟩ := hcut
            obtain ⟨D, hD⟩ : ∃ D, wc.drew = D := ⟨_, rfl⟩
            have hbD : Below wc.heap.size wc D := by rw [← hD]; exact (Below.refl _ _).drew
            obtain ⟨ps, hps⟩ : ∃ ps, [q.t] ++ joinL q ++ whereL q ++ groupL q ++ getL q = ps := ⟨_, rfl⟩
            have hpl : [fromP, q.t] ++ joinL q ++ whereL q ++ groupL q ++ getL q = fromP :: ps := by rw [← hps]; simp
            have HOD : Hid (OwnR rTxt 1 9 W0.heap.size D (.slice ax nn cx) (fromP :: ps)) := by have := HOX.out.keep mTxt hbD; rw [hpl] at this; exact this
            have hnn : nn = ps.length + 1 := (ownForm HOD.out).1
            obtain ⟨p, cp, ep, hlp⟩ := HOD.out.list mTxt (bytes := 16) (by have := HNL.out; simp; omega)
            obtain ⟨b, o, hq, _, hc⟩ := txt_at hlp (by simp)
            have hcell : D.cell? ⟨b, o, none⟩ = some (.string ⟨#[102, 114, 111, 109]⟩) := (hc 0 (by simp)).1
            obtain ⟨qt, dt, hqt, hlt⟩ := ownTail mTxt HOD.out (bytes := 16) 1 (by omega) (by have := HNL.out; simp; omega)
            have hlt2 : ListIs rTxt 1 16 (From W0.heap.size D) D (.slice qt ps.length dt) ps := hlt
            have hsl : ∀ W, (Instr.slice 24 (.slice ax nn cx) (some (.int .i64 1)) none none).run Tryz.prog W = .ok (.slice qt ps.length dt) W := fun W => by
              have := tail_slice W ax nn cx 1 (by omega)
              rw [hqt, show nn - 1 = ps.length by omega] at this
              exact this
            have hax : ax = some ⟨b, o, none⟩ := by rw [hq] at ep; simp only [Value.slice.injEq] at ep; exact ep.1
            have ho0 : o = 0 := by
              rcases (ownForm HOD.out).2.2 with ⟨h, _⟩ | ⟨g, h⟩
              · rw [hax] at h; cases h
              · rw [hax] at h; cases h; rfl
            subst ho0
            subst hax
            have C : Hid (Calls Tryz.prog 15 #[.string ⟨#[102, 114, 111, 109]⟩, .slice qt ps.length dt] D fun e w' => e = .returned (.string ⟨(queryTextP q).toArray⟩) ∧ Below D.heap.size D w') := by
              have h1 := brackets_any _ fromP qt dt ps D hlt2 (fun b h => h.2) (by have := HNL.out; omega) (by simp [fromP])
              have h2 : queryTextP q = bracketsP fromP ps := by unfold queryTextP; rw [hps]
              rw [h2]
              exact h1
            obtain ⟨m, hm⟩ : ∃ m, ps.length = m := ⟨_, rfl⟩
            rw [hm] at C hsl
            have HSL := hid hsl
            have HCE := hid hcell
            have hz : (0 : Int) < (nn : Int) := by omega
            have HBD : Hid (Below w.heap.size w D) := (HLATER.out wc HBX.out).2.2.2.2.trans (hbD.mono (HLATER.out wc HBX.out).2.2.2.2.size)
            obtain ⟨Z, hZ⟩ : ∃ Z : ByteArray, (⟨(queryTextP q).toArray⟩ : ByteArray) = Z := ⟨_, rfl⟩
            rw [hZ] at C
            have HZ := hid hZ
            clear hbD hps hpl HOD hnn ep hlp hq hc hcell hqt hlt hlt2 hsl hm hZ HBX HOX HNL HLATER HL HW HI HGR HS HN
            go_wp2_with fail
            refine wp_region_held_drew (S := fun V => V.cell? ⟨b, 0, none⟩ = some (.string ⟨#[102, 114, 111, 109]⟩)) (by kernel_rfl) (by rw [hD]; exact HCE.out) (fun hHeld => ?_)
            refine wpAnyH_take (i := 0) (v := .slice (some ⟨b, 0, none⟩) nn cx) rfl (by kernel_rfl) (by kernel_rfl) (by kernel_rfl) (fun _ _ _ h => h) (.inl ⟨by rfl, fun W hW => by go_simp⟩) hHeld ?_
            simp only [Act.put, List.getElem_toArray, List.getElem_cons_zero, List.getElem_cons_succ, List.setIfInBounds_toArray, List.set_cons_zero, List.set_cons_succ]
            refine wpAnyH_take (i := 1) (v := .pointer (some ⟨b, 0, none⟩)) rfl (by kernel_rfl) (by kernel_rfl) (by kernel_rfl) (fun _ _ _ h => h) (.inl ⟨by rfl, fun W hW => by go_simp; exact fun h => absurd h (by omega)⟩) hHeld ?_
            simp only [Act.put, List.getElem_toArray, List.getElem_cons_zero, List.getElem_cons_succ, List.setIfInBounds_toArray, List.set_cons_zero, List.set_cons_succ]
            refine wpAnyH_take (i := 2) (v := .string ⟨#[102, 114, 111, 109]⟩) rfl (by kernel_rfl) (by kernel_rfl) (by kernel_rfl) (fun _ _ _ h => h) (.inl ⟨by rfl, fun W hW => by go_simp⟩) hHeld ?_
            simp only [Act.put, List.getElem_toArray, List.getElem_cons_zero, List.getElem_cons_succ, List.setIfInBounds_toArray, List.set_cons_zero, List.set_cons_succ]
            refine wpAnyH_take (i := 3) (v := .slice (some ⟨b, 0, none⟩) nn cx) rfl (by kernel_rfl) (by kernel_rfl) (by kernel_rfl) (fun _ _ _ h => h) (.inl ⟨by rfl, fun W hW => by go_simp⟩) hHeld ?_
            simp only [Act.put, List.getElem_toArray, List.getElem_cons_zero, List.getElem_cons_succ, List.setIfInBounds_toArray, List.set_cons_zero, List.set_cons_succ]
            refine wpAnyH_take (i := 4) (v := .slice qt m dt) rfl (by kernel_rfl) (by kernel_rfl) (by kernel_rfl) (fun _ _ _ h => h) (.inl ⟨by rfl, fun W hW => by have h9 := HSL.out W; go_simp⟩) hHeld ?_
            simp only [Act.put, List.getElem_toArray, List.getElem_cons_zero, List.getElem_cons_succ, List.setIfInBounds_toArray, List.set_cons_zero, List.set_cons_succ]
            rw [hD] at hHeld ⊢
            clear hD
            refine wpAnyH_ready (rs := [5]) (by kernel_rfl) (by simp) ?_
            refine AllReadyH.cons rfl (fun K' hK => ?_) AllReadyH.nil
            rw [if_pos (by rfl)]
            go_simp
            go_at_call 15
            refine C.out.mono ?_
            rintro e w7 ⟨rfl, hb7⟩
            have hs7 : w7.cell? ⟨b, 0, none⟩ = some (.string ⟨#[102, 114, 111, 109]⟩) := (hb7.cell (p := ⟨b, 0, none⟩) (World.block_lt_of_cell? D ⟨b, 0, none⟩ HCE.out)).trans HCE.out
            have HB7 : Hid (Below w.heap.size w w7) := HBD.out.trans (hb7.mono HBD.out.size)
            refine hK.out _ _ hs7 (fun hHeld => ?_)
            clear hK K' hs7 hb7 C
            refine wpAnyH_ready (rs := [6]) (by kernel_rfl) (by simp) ?_
            refine AllReadyH.cons rfl (fun K' hK => ?_) AllReadyH.nil
            rw [if_pos (by rfl)]
            go_simp
            refine hK.out _ _ hHeld (fun hHeld => ?_)
            clear hK K'
            refine wpAnyH_ready (rs := [7]) (by kernel_rfl) (by simp) ?_
            refine AllReadyH.cons rfl (fun K' hK => ?_) AllReadyH.nil
            rw [if_pos (by rfl)]
            go_simp
            refine hK.out _ _ hHeld (fun hHeld => ?_)
            clear hK K'
            refine wpAnyH_done (by kernel_rfl) ?_ _
            clear hHeld
            go_wp2_with fail
            go_ret2
            exact ⟨by rw [HZ.out]; rfl, HB7.out⟩
  · have yc : (cq != 0) = true := bne_iff_ne.2 hc0
    have HP : Hid (printP q = ([], cq)) := by show _ = _; unfold printP; rw [hcq, if_pos hc0]
    rw [show (printP q).1 = [] by rw [HP.out], show (printP q).2 = cq by rw [HP.out]]
    clear hcq hqc HP HQ HK0 HG HG2 HGC hl0 hc0 HLATER HL HS HN
    go_enter Tryz.func4, Tryz.ntmps4
    go_wp2_with (refine wpList_load_mid rfl 26 _ rfl w.heap.size 0 rfl _ _ HR0.out Tryz.underlying26 rfl sz_qry ?_)
    refine C0.out.mono ?_
    rintro e w1 ⟨rfl, hb1⟩
    have HB1 : Hid (Below w.heap.size w w1) := HB.out.trans (hb1.mono HB.out.size)
    clear C0 hb1 HR0 hW0
    go_wp2_with fail
    go_ret2
    exact ⟨rfl, HB1.out⟩
end Go.Proofs.YtnmmojhbcnlboaaGreatDoor
/- What the life asks. -/
namespace Go.Proofs.YtnmmojhbcnlboaaGreatDoor
open Go.Shelf Go.RowKit Go.Lib Go.Sort
set_option linter.unusedVariables false
set_option linter.unusedSimpArgs false
attribute [local go_sem ↓] Go.wp_at_zero Go.wp_at_succ
def lifeA : List UInt8 := [40, 102, 114, 111, 109, 32, 116, 32, 40, 119, 104, 101, 114, 101, 32, 40, 110, 111, 116, 32, 40, 61, 32, 98, 32, 50, 41, 41, 41, 32, 40, 103, 101, 116, 32, 40, 99, 111, 117, 110, 116, 41, 32, 40, 97, 110, 100, 32, 97, 32, 98, 32, 99, 41, 41, 41]
def lifeB : List UInt8 := [40, 102, 114, 111, 109, 32, 116, 32, 40, 119, 104, 101, 114, 101, 32, 40, 110, 111, 116, 32, 40, 61, 32, 98, 32, 50, 41, 41, 41, 32, 40, 103, 101, 116, 32, 40, 99, 111, 117, 110, 116, 41, 32, 40, 97, 110, 100, 32, 97, 32, 40, 97, 110, 100, 32, 98, 32, 99, 41, 41, 41, 41]
def lifeC : List UInt8 := [40, 102, 114, 111, 109, 32, 55, 41]
def lifeQ : Qry := ⟨[⟨1, []⟩, ⟨0, [⟨6, [97], 0⟩, ⟨6, [98], 0⟩, ⟨6, [99], 0⟩, ⟨20, [], 0⟩, ⟨20, [], 0⟩]⟩], [116], [], [], [], [⟨6, [98], 0⟩, ⟨4, [], 2⟩, ⟨14, [], 0⟩, ⟨8, [], 0⟩], []⟩
theorem life_a : parseP lifeA = (lifeQ, 0, 0) := by kernel_rfl
theorem life_b : printP lifeQ = (lifeB, 0) := by kernel_rfl
theorem life_c : parseP lifeC = (zeroQ, 13, 6) := by kernel_rfl
/-- What the package's variables hold, and that they are laid. -/
structure GA (w : World) : Prop where
  g2 : Glob2 w
  gw : GW w
  h10 : 10 ≤ w.heap.size
theorem GA.below {w w' : World} (h : GA w) (hb : Below w.heap.size w w') : GA w' := ⟨h.g2.below hb, h.gw.below hb, Nat.le_trans h.h10 hb.size⟩
set_option maxRecDepth 100000 in
set_option maxHeartbeats 8000000 in
theorem lives_any (w : World) (h : GA w) : Calls Tryz.prog 10 #[] w fun e w' => e = .returned (.bool true) ∧ Below w.heap.size w w' := by
  have HG := hid h
  have C1 : Hid (Calls Tryz.prog 25 #[.string ⟨lifeA.toArray⟩] w fun e w' => OutP w (lifeQ, 0, 0) e w') := by have := parse_any ⟨lifeA.toArray⟩ w (by decide) h.g2.1 h.gw h.h10; rw [show (⟨lifeA.toArray⟩ : ByteArray).data.toList = lifeA from rfl, life_a] at this; exact this
  clear h
  go_enter Tryz.func10, Tryz.ntmps10
  go_wp2_with fail
  refine C1.out.mono ?_
  rintro e w1 ⟨v, rfl, ⟨vi, vw, vg, rfl, hin⟩, hb1⟩
  obtain ⟨pi, ci, pw, cw, pg, cg, rfl, rfl, rfl, hls⟩ := hin.ls
  rw [show lifeQ.cl (.slice pi lifeQ.i.length ci) (.slice pw lifeQ.w.length cw) (.slice pg lifeQ.g.length cg) = #[.slice pi 2 ci, .string ⟨#[116]⟩, .string ⟨#[]⟩, .string ⟨#[]⟩, .string ⟨#[]⟩, .slice pw 4 cw, .slice pg 0 cg] from rfl]
  obtain ⟨WA, hWA, hth, V1, hV1, hgQ, hbV⟩ := box_any w1 26 #[.slice none 0 0, .string ⟨#[]⟩, .string ⟨#[]⟩, .string ⟨#[]⟩, .string ⟨#[]⟩, .slice none 0 0, .slice none 0 0] [.slice pi 2 ci, .string ⟨#[116]⟩, .string ⟨#[]⟩, .string ⟨#[]⟩, .string ⟨#[]⟩, .slice pw 4 cw, .slice pg 0 cg] rfl
  have HTH := hid hth
  have HV1 : Hid (WA.setCells w1.heap.size 0 (#[.slice pi 2 ci, .string ⟨#[116]⟩, .string ⟨#[]⟩, .string ⟨#[]⟩, .string ⟨#[]⟩, .slice pw 4 cw, .slice pg 0 cg] : Array Value).toList = V1) := hV1
  have HON : Hid ((#[.slice pi 2 ci, .string ⟨#[116]⟩, .string ⟨#[]⟩, .string ⟨#[]⟩, .string ⟨#[]⟩, .slice pw 4 cw, .slice pg 0 cg] : Array Value).all (·.oneCell') = true) := by show _ = _; simp [Value.oneCell']
  have hlQ : w1.heap.size < V1.heap.size := (Array.getElem?_eq_some_iff.1 hgQ).1
  have hbw1 : Below w.heap.size w V1 := hb1.trans (hbV.mono hb1.size)
  have hls1 := hls.below (fun b hb => hb.2) hbV
  have hK1 : ∀ b, From w.heap.size w1 b → b < V1.heap.size := fun b hb => Nat.lt_of_lt_of_le hb.2 hbV.size
  have hG1 := HG.out.below hbw1
  have C2 : Hid (Calls Tryz.prog 4 #[.agg #[.slice pi 2 ci, .string ⟨#[116]⟩, .string ⟨#[]⟩, .string ⟨#[]⟩, .string ⟨#[]⟩, .slice pw 4 cw, .slice pg 0 cg]] V1 fun e w' => e = .returned (.tuple #[.string ⟨lifeB.toArray⟩, .int .i64 0]) ∧ Below V1.heap.size V1 w') := by have := print_any _ pi pw pg ci cw cg lifeQ V1 hls1 hK1 hG1.gw hG1.g2; rw [life_b] at this; exact this
  have HR1 : Hid (V1.rangeAt w1.heap.size 0 [.slice pi 2 ci, .string ⟨#[116]⟩, .string ⟨#[]⟩, .string ⟨#[]⟩, .string ⟨#[]⟩, .slice pw 4 cw, .slice pg 0 cg]) := fun j u hu => by rw [Nat.zero_add]; exact cell_of_row hgQ (by simpa using hu)
  have HQ1 := hid (And.intro hgQ hlQ)
  have HL1 := hid (And.intro hls1 hK1)
  have HB1 := hid hbw1
  clear C1 hin hls hb1 hth hV1 hgQ hbV hlQ hbw1 hls1 hK1 hG1
  go_wp2_with (first | (refine wpList_store_mid rfl 26 _ _ rfl w1.heap.size 0 #[.slice pi 2 ci, .string ⟨#[116]⟩, .string ⟨#[]⟩, .string ⟨#[]⟩, .string ⟨#[]⟩, .slice pw 4 cw, .slice pg 0 cg] rfl rfl HTH.out sz_qry HON.out ?_; rw [show WA.setCells w1.heap.size 0 (#[.slice pi 2 ci, .string ⟨#[116]⟩, .string ⟨#[]⟩, .string ⟨#[]⟩, .string ⟨#[]⟩, .slice pw 4 cw, .slice pg 0 cg] : Array Value).toList = V1 from HV1.out]) | (refine wpList_load_mid rfl 26 _ rfl w1.heap.size 0 rfl _ _ HR1.out Tryz.underlying26 rfl sz_qry ?_))
  refine C2.out.mono ?_
  rintro e w2 ⟨rfl, hb2⟩
  have HB2 : Hid (Below w.heap.size w w2) := HB1.out.trans (hb2.mono HB1.out.size)
  have hG2 := HG.out.below HB2.out
  have C3 : Hid (Calls Tryz.prog 25 #[.string ⟨lifeC.toArray⟩] w2 fun e w' => OutP w2 (zeroQ, 13, 6) e w') := by have := parse_any ⟨lifeC.toArray⟩ w2 (by decide) hG2.g2.1 hG2.gw hG2.h10; rw [show (⟨lifeC.toArray⟩ : ByteArray).data.toList = lifeC from rfl, life_c] at this; exact this
  have HB12 := hid hb2
  obtain ⟨S, hS⟩ : ∃ S : ByteArray, (⟨lifeB.toArray⟩ : ByteArray) = S := ⟨_, rfl⟩
  have HS := hid hS
  rw [hS]
  clear C2 hb2 hG2 HR1 HTH HV1 HON hWA hS
  go_wp2_with fail
  refine C3.out.mono ?_
  rintro e w3 ⟨v, rfl, ⟨vi, vw, vg, rfl, hin⟩, hb3⟩
  obtain ⟨qi, di, rfl⟩ := hin.1.1.slice
  obtain ⟨qw, dw, rfl⟩ := hin.2.1.slice
  obtain ⟨qg, dg, rfl⟩ := hin.2.2.1.1.slice
  rw [show zeroQ.cl (.slice qi zeroQ.i.length di) (.slice qw zeroQ.w.length dw) (.slice qg zeroQ.g.length dg) = #[.slice qi 0 di, .string ⟨#[]⟩, .string ⟨#[]⟩, .string ⟨#[]⟩, .string ⟨#[]⟩, .slice qw 0 dw, .slice qg 0 dg] from rfl]
  obtain ⟨WA, hWA, hth, V3, hV3, _, hbV3⟩ := box_any w3 26 #[.slice none 0 0, .string ⟨#[]⟩, .string ⟨#[]⟩, .string ⟨#[]⟩, .string ⟨#[]⟩, .slice none 0 0, .slice none 0 0] [.slice qi 0 di, .string ⟨#[]⟩, .string ⟨#[]⟩, .string ⟨#[]⟩, .string ⟨#[]⟩, .slice qw 0 dw, .slice qg 0 dg] rfl
  have HTH := hid hth
  have HV3 : Hid (WA.setCells w3.heap.size 0 (#[.slice qi 0 di, .string ⟨#[]⟩, .string ⟨#[]⟩, .string ⟨#[]⟩, .string ⟨#[]⟩, .slice qw 0 dw, .slice qg 0 dg] : Array Value).toList = V3) := hV3
  have HON : Hid ((#[.slice qi 0 di, .string ⟨#[]⟩, .string ⟨#[]⟩, .string ⟨#[]⟩, .string ⟨#[]⟩, .slice qw 0 dw, .slice qg 0 dg] : Array Value).all (·.oneCell') = true) := by show _ = _; simp [Value.oneCell']
  have hb13 : Below V1.heap.size V1 V3 := HB12.out.trans ((hb3.trans (hbV3.mono hb3.size)).mono HB12.out.size)
  have HBF : Hid (Below w.heap.size w V3) := HB1.out.trans (hb13.mono HB1.out.size)
  have hgF := (hb13.block _ HQ1.out.2).trans HQ1.out.1
  have d0 := cell_of_row (k := 0) (v := .slice pi 2 ci) hgF rfl
  have d5 := cell_of_row (k := 5) (v := .slice pw 4 cw) hgF rfl
  have hlF := HL1.out.1.below HL1.out.2 hb13
  obtain ⟨b, o, hpi, _, hc⟩ := itm_at (n := 2) hlF.li (by decide)
  obtain ⟨p0, cp0, h0, _⟩ := hc 0 (by decide)
  obtain ⟨p1, cp1, h1, _⟩ := hc 1 (by decide)
  have f0 : V3.cell? ⟨b, o, none⟩ = some (.int .u8 1) := h0 0 _ rfl
  have f1 : V3.cell? ⟨b, o + 2 + 1, none⟩ = some (.slice p1 5 cp1) := h1 1 _ rfl
  have f1' : V3.cell? ⟨b, o + 3, none⟩ = some (.slice p1 5 cp1) := f1
  have ht : (S.toList == (⟨lifeB.toArray⟩ : ByteArray).toList) = true := by rw [HS.out]; simp
  have ht2 : (S.toList == lifeB) = true := by rw [Lib.toList_data, ← HS.out]; rfl
  subst hpi
  clear C3 hin hb3 hth hV3 hbV3 hb13 hgF hlF hc h0 h1 HB12 HQ1 HL1 HB1 HB2 HS HG
  unfold lifeB at ht ht2
  go_wp2_with (first | (refine wpList_store_mid rfl 26 _ _ rfl w3.heap.size 0 #[.slice qi 0 di, .string ⟨#[]⟩, .string ⟨#[]⟩, .string ⟨#[]⟩, .string ⟨#[]⟩, .slice qw 0 dw, .slice qg 0 dg] rfl rfl HTH.out sz_qry HON.out ?_; rw [show WA.setCells w3.heap.size 0 (#[.slice qi 0 di, .string ⟨#[]⟩, .string ⟨#[]⟩, .string ⟨#[]⟩, .string ⟨#[]⟩, .slice qw 0 dw, .slice qg 0 dg] : Array Value).toList = V3 from HV3.out]))
  go_ret
  exact ⟨rfl, HBF.out⟩
end Go.Proofs.YtnmmojhbcnlboaaGreatDoor
