/- Whether any of what was asked is so: slices.IndexFunc, slices.ContainsFunc. -/
import Derived.Test.YtajomnfeicfdlaaGreatDoorHcHdHeHf
namespace Go.Proofs.YtajomnfeicfdlaaGreatDoor
open Go.Shelf Go.RowKit Go.Lib
set_option linter.unusedVariables false
set_option linter.unusedSimpArgs false
attribute [local go_sem ↓] Go.wp_at_zero Go.wp_at_succ
/-- Whether any is so. -/
def anyP (p : Int × Mg → Bool) (xs : List (Int × Mg)) : Bool := xs.any p
set_option maxRecDepth 100000 in
set_option maxHeartbeats 4000000 in
theorem index_0 (p : Int × Mg → Bool) (F : Nat) (v : Value) (xs : List (Int × Mg)) (K : Nat → Prop) (w : World) (h : ListIs rAsk 48 648 K w v xs) (hK : ∀ b, K b → b < w.heap.size)
  (eg : ∀ args w, (callFunc F args).run Tryz.prog w = .ok (.enter F args) w)
  (hC : ∀ W, Below w.heap.size w W → ∀ x ∈ xs, ∀ cl : List Value, cl.length = 47 → MsgIs K W cl.toArray x.2 → Calls Tryz.prog F #[.agg (.int .i64 x.1 :: cl).toArray] W fun e w' => e = .returned (.bool (p x)) ∧ Below W.heap.size W w') :
  Calls Tryz.prog 58 #[v, .func (.func F) #[] #[]] w fun e w' => ∃ k : Int, e = .returned (.int .i64 k) ∧ ((0 ≤ k ∧ anyP p xs = true) ∨ (k = -1 ∧ anyP p xs = false)) ∧ Below w.heap.size w w' := by
 obtain ⟨q0, c0, rfl, hby, hp⟩ := h
 have HP : Hid (0 < xs.length → ∃ b o, q0 = some ⟨b, o, none⟩ ∧ K b ∧ ∀ (j : Nat) (h : j < xs.length), ∃ cs, cs.length = 48 ∧ (∀ (i : Nat) (u : Value), cs[i]? = some u → w.cell? ⟨b, o + j * 48 + i, none⟩ = some u) ∧ rAsk K w cs xs[j]) := hp
 have HKK : Hid (∀ b, K b → b < w.heap.size) := hK
 have HC : Hid (∀ W, Below w.heap.size w W → ∀ x ∈ xs, ∀ cl : List Value, cl.length = 47 → MsgIs K W cl.toArray x.2 → Calls Tryz.prog F #[.agg (.int .i64 x.1 :: cl).toArray] W fun e w' => e = .returned (.bool (p x)) ∧ Below W.heap.size W w') := hC
 obtain ⟨j0, hj0, hj1, hj2, hj3⟩ := info73
 have hx63 : xs.length ≤ 140737488355328 := by omega
 clear hp hK hby hC
 go_enter Tryz.func58, Tryz.ntmps58
 go_wp2_with fail
 go_loopg [8] xs.length (fun gf s8 wx => ∃ (i : Nat), s8 = .int .i64 i ∧ i ≤ xs.length ∧ xs.length ≤ i + gf ∧ Hid (Below w.heap.size w wx) ∧ Hid (∀ x ∈ xs.take i, p x = false))
 case atStart => exact ⟨0, rfl, by omega, by omega, Below.refl _ _, fun x hx => by simp at hx⟩
 case round =>
  obtain ⟨i, rfl, hi1, hgf, HB, HN⟩ := hrel
  by_cases hi : i < xs.length
  ·obtain ⟨g', rfl⟩ : ∃ g', gk = g' + 1 := ⟨gk - 1, by omega⟩
   obtain ⟨b, o, rfl, hKb, hc⟩ := HP.out (by omega)
   obtain ⟨cs, hcl, hcell, hrel1⟩ := hc i hi
   obtain ⟨y, hy⟩ : ∃ y, xs[i] = y := ⟨_, rfl⟩
   have htk : xs.take (i + 1) = xs.take i ++ [y] := by rw [← hy]; exact List.take_succ_eq_append_getElem hi
   have hmem : y ∈ xs := by rw [← hy]; exact List.getElem_mem hi
   rw [hy] at hrel1
   have hbw := HB.out
   obtain ⟨cl, rfl, hln, hi64, hmi⟩ := hrel1
   have hra : wr.rangeAt b (o + i * 48) (.int .i64 y.1 :: cl) := fun j u hu => by
    rw [hbw.cell (p := ⟨b, _, none⟩) (HKK.out _ hKb)]
    exact hcell j u hu
   have CC := hid (HC.out wr hbw y hmem cl hln (hmi.keep (fun _ h => h) (kept_of HKK.out hbw)))
   have HRA : Hid (wr.rangeAt b (o + i * 48) (.int .i64 y.1 :: cl)) := hra
   have SZ : Hid ((Tryz.prog.info? 73).map (·.size) = some (Value.int .i64 y.1 :: cl).length) := by show _ = _; rw [hj0, List.length_cons, hln]; simp [hj2]
   have HTK : Hid (xs.take (i + 1) = xs.take i ++ [y]) := htk
   have HME : Hid (y ∈ xs) := hmem
   have z0 : (0 : Int) ≤ (i : Int) := by omega
   have z1' : (i : Int) < (xs.length : Int) := by omega
   clear hra htk hc hcell hy hKb hcl hbw hmi hmem hln hi64
   go_wp2_with (refine wpList_load_mid rfl 73 _ rfl b (o + i * 48) rfl _ _ HRA.out Tryz.underlying73 rfl SZ.out ?_)
   refine CC.out.mono ?_
   rintro e w3 ⟨rfl, hb3⟩
   have HB3 : Hid (Below w.heap.size w w3) := HB.out.trans (hb3.mono HB.out.size)
   clear hb3 CC HRA SZ HB
   cases hpy : p y with
   | true =>
    have HA : Hid (anyP p xs = true) := List.any_eq_true.2 ⟨y, HME.out, hpy⟩
    clear hpy
    go_wp2_with fail
    go_ret
    exact ⟨_, rfl, .inl ⟨by omega, HA.out⟩, HB3.out⟩
   | false =>
    have HN2 : Hid (∀ x ∈ xs.take (i + 1), p x = false) := fun x hx => by
     rw [HTK.out] at hx
     rcases List.mem_append.1 hx with hx | hx
     ·exact HN.out x hx
     ·rw [List.mem_singleton.1 hx]; exact hpy
    clear hpy
    go_wp2_with fail
    go_roundg g'
    case measure => omega
    case rel => exact ⟨i + 1, by go_num, by omega, by omega, HB3, HN2⟩
  ·have z1 : ¬ (i : Int) < (xs.length : Int) := by omega
   have HA : Hid (anyP p xs = false) := by
    show xs.any p = false
    rw [List.any_eq_false]
    intro x hx
    have := HN.out x (by rw [List.take_of_length_le (by omega)]; exact hx)
    simp [this]
   clear HN
   go_wp2_with fail
   go_ret
   exact ⟨_, rfl, .inr ⟨rfl, HA.out⟩, HB.out⟩
set_option maxRecDepth 100000 in
set_option maxHeartbeats 4000000 in
theorem contains_0 (p : Int × Mg → Bool) (F : Nat) (v : Value) (xs : List (Int × Mg)) (K : Nat → Prop) (w : World) (h : ListIs rAsk 48 648 K w v xs) (hK : ∀ b, K b → b < w.heap.size)
  (eg : ∀ args w, (callFunc F args).run Tryz.prog w = .ok (.enter F args) w)
  (hC : ∀ W, Below w.heap.size w W → ∀ x ∈ xs, ∀ cl : List Value, cl.length = 47 → MsgIs K W cl.toArray x.2 → Calls Tryz.prog F #[.agg (.int .i64 x.1 :: cl).toArray] W fun e w' => e = .returned (.bool (p x)) ∧ Below W.heap.size W w') :
  Calls Tryz.prog 34 #[v, .func (.func F) #[] #[]] w fun e w' => e = .returned (.bool (anyP p xs)) ∧ Below w.heap.size w w' := by
 have C := hid (index_0 p F v xs K w h hK eg hC)
 clear h hK eg hC
 obtain ⟨r, hr⟩ : ∃ r, anyP p xs = r := ⟨_, rfl⟩
 rw [hr] at C ⊢
 clear hr
 go_enter Tryz.func34, Tryz.ntmps34
 go_wp2_with fail
 refine C.out.mono ?_
 rintro e w1 ⟨k, rfl, hk, hb⟩
 have HB : Hid (Below w.heap.size w w1) := hb
 rcases hk with ⟨hk, rfl⟩ | ⟨rfl, rfl⟩
 ·have z : (0 : Int) ≤ k := hk
  clear hb C
  go_wp2_with fail
  go_ret
  exact ⟨by simp [z], HB.out⟩
 ·clear hb C
  go_wp2_with fail
  go_ret
  exact ⟨rfl, HB.out⟩
set_option maxRecDepth 100000 in
set_option maxHeartbeats 4000000 in
theorem index_2 (f1 f2 : Addr) (p : Int × Mg → Bool) (F : Nat) (v : Value) (xs : List (Int × Mg)) (K : Nat → Prop) (w : World) (h : ListIs rAsk 48 648 K w v xs) (hK : ∀ b, K b → b < w.heap.size)
  (eg : ∀ args w, (callFunc F args).run Tryz.prog w = .ok (.enter F args) w)
  (hC : ∀ W, Below w.heap.size w W → ∀ x ∈ xs, ∀ cl : List Value, cl.length = 47 → MsgIs K W cl.toArray x.2 → Calls Tryz.prog F #[.agg (.int .i64 x.1 :: cl).toArray, .pointer (some f1), .pointer (some f2)] W fun e w' => e = .returned (.bool (p x)) ∧ Below W.heap.size W w') :
  Calls Tryz.prog 58 #[v, .func (.func F) #[] #[.pointer (some f1), .pointer (some f2)]] w fun e w' => ∃ k : Int, e = .returned (.int .i64 k) ∧ ((0 ≤ k ∧ anyP p xs = true) ∨ (k = -1 ∧ anyP p xs = false)) ∧ Below w.heap.size w w' := by
 obtain ⟨q0, c0, rfl, hby, hp⟩ := h
 have HP : Hid (0 < xs.length → ∃ b o, q0 = some ⟨b, o, none⟩ ∧ K b ∧ ∀ (j : Nat) (h : j < xs.length), ∃ cs, cs.length = 48 ∧ (∀ (i : Nat) (u : Value), cs[i]? = some u → w.cell? ⟨b, o + j * 48 + i, none⟩ = some u) ∧ rAsk K w cs xs[j]) := hp
 have HKK : Hid (∀ b, K b → b < w.heap.size) := hK
 have HC : Hid (∀ W, Below w.heap.size w W → ∀ x ∈ xs, ∀ cl : List Value, cl.length = 47 → MsgIs K W cl.toArray x.2 → Calls Tryz.prog F #[.agg (.int .i64 x.1 :: cl).toArray, .pointer (some f1), .pointer (some f2)] W fun e w' => e = .returned (.bool (p x)) ∧ Below W.heap.size W w') := hC
 obtain ⟨j0, hj0, hj1, hj2, hj3⟩ := info73
 have hx63 : xs.length ≤ 140737488355328 := by omega
 clear hp hK hby hC
 go_enter Tryz.func58, Tryz.ntmps58
 go_wp2_with fail
 go_loopg [8] xs.length (fun gf s8 wx => ∃ (i : Nat), s8 = .int .i64 i ∧ i ≤ xs.length ∧ xs.length ≤ i + gf ∧ Hid (Below w.heap.size w wx) ∧ Hid (∀ x ∈ xs.take i, p x = false))
 case atStart => exact ⟨0, rfl, by omega, by omega, Below.refl _ _, fun x hx => by simp at hx⟩
 case round =>
  obtain ⟨i, rfl, hi1, hgf, HB, HN⟩ := hrel
  by_cases hi : i < xs.length
  ·obtain ⟨g', rfl⟩ : ∃ g', gk = g' + 1 := ⟨gk - 1, by omega⟩
   obtain ⟨b, o, rfl, hKb, hc⟩ := HP.out (by omega)
   obtain ⟨cs, hcl, hcell, hrel1⟩ := hc i hi
   obtain ⟨y, hy⟩ : ∃ y, xs[i] = y := ⟨_, rfl⟩
   have htk : xs.take (i + 1) = xs.take i ++ [y] := by rw [← hy]; exact List.take_succ_eq_append_getElem hi
   have hmem : y ∈ xs := by rw [← hy]; exact List.getElem_mem hi
   rw [hy] at hrel1
   have hbw := HB.out
   obtain ⟨cl, rfl, hln, hi64, hmi⟩ := hrel1
   have hra : wr.rangeAt b (o + i * 48) (.int .i64 y.1 :: cl) := fun j u hu => by
    rw [hbw.cell (p := ⟨b, _, none⟩) (HKK.out _ hKb)]
    exact hcell j u hu
   have CC := hid (HC.out wr hbw y hmem cl hln (hmi.keep (fun _ h => h) (kept_of HKK.out hbw)))
   have HRA : Hid (wr.rangeAt b (o + i * 48) (.int .i64 y.1 :: cl)) := hra
   have SZ : Hid ((Tryz.prog.info? 73).map (·.size) = some (Value.int .i64 y.1 :: cl).length) := by show _ = _; rw [hj0, List.length_cons, hln]; simp [hj2]
   have HTK : Hid (xs.take (i + 1) = xs.take i ++ [y]) := htk
   have HME : Hid (y ∈ xs) := hmem
   have z0 : (0 : Int) ≤ (i : Int) := by omega
   have z1' : (i : Int) < (xs.length : Int) := by omega
   clear hra htk hc hcell hy hKb hcl hbw hmi hmem hln hi64
   go_wp2_with (refine wpList_load_mid rfl 73 _ rfl b (o + i * 48) rfl _ _ HRA.out Tryz.underlying73 rfl SZ.out ?_)
   refine CC.out.mono ?_
   rintro e w3 ⟨rfl, hb3⟩
   have HB3 : Hid (Below w.heap.size w w3) := HB.out.trans (hb3.mono HB.out.size)
   clear hb3 CC HRA SZ HB
   cases hpy : p y with
   | true =>
    have HA : Hid (anyP p xs = true) := List.any_eq_true.2 ⟨y, HME.out, hpy⟩
    clear hpy
    go_wp2_with fail
    go_ret
    exact ⟨_, rfl, .inl ⟨by omega, HA.out⟩, HB3.out⟩
   | false =>
    have HN2 : Hid (∀ x ∈ xs.take (i + 1), p x = false) := fun x hx => by
     rw [HTK.out] at hx
     rcases List.mem_append.1 hx with hx | hx
     ·exact HN.out x hx
     ·rw [List.mem_singleton.1 hx]; exact hpy
    clear hpy
    go_wp2_with fail
    go_roundg g'
    case measure => omega
    case rel => exact ⟨i + 1, by go_num, by omega, by omega, HB3, HN2⟩
  ·have z1 : ¬ (i : Int) < (xs.length : Int) := by omega
   have HA : Hid (anyP p xs = false) := by
    show xs.any p = false
    rw [List.any_eq_false]
    intro x hx
    have := HN.out x (by rw [List.take_of_length_le (by omega)]; exact hx)
    simp [this]
   clear HN
   go_wp2_with fail
   go_ret
   exact ⟨_, rfl, .inr ⟨rfl, HA.out⟩, HB.out⟩
set_option maxRecDepth 100000 in
set_option maxHeartbeats 4000000 in
theorem contains_2 (f1 f2 : Addr) (p : Int × Mg → Bool) (F : Nat) (v : Value) (xs : List (Int × Mg)) (K : Nat → Prop) (w : World) (h : ListIs rAsk 48 648 K w v xs) (hK : ∀ b, K b → b < w.heap.size)
  (eg : ∀ args w, (callFunc F args).run Tryz.prog w = .ok (.enter F args) w)
  (hC : ∀ W, Below w.heap.size w W → ∀ x ∈ xs, ∀ cl : List Value, cl.length = 47 → MsgIs K W cl.toArray x.2 → Calls Tryz.prog F #[.agg (.int .i64 x.1 :: cl).toArray, .pointer (some f1), .pointer (some f2)] W fun e w' => e = .returned (.bool (p x)) ∧ Below W.heap.size W w') :
  Calls Tryz.prog 34 #[v, .func (.func F) #[] #[.pointer (some f1), .pointer (some f2)]] w fun e w' => e = .returned (.bool (anyP p xs)) ∧ Below w.heap.size w w' := by
 have C := hid (index_2 f1 f2 p F v xs K w h hK eg hC)
 clear h hK eg hC
 obtain ⟨r, hr⟩ : ∃ r, anyP p xs = r := ⟨_, rfl⟩
 rw [hr] at C ⊢
 clear hr
 go_enter Tryz.func34, Tryz.ntmps34
 go_wp2_with fail
 refine C.out.mono ?_
 rintro e w1 ⟨k, rfl, hk, hb⟩
 have HB : Hid (Below w.heap.size w w1) := hb
 rcases hk with ⟨hk, rfl⟩ | ⟨rfl, rfl⟩
 ·have z : (0 : Int) ≤ k := hk
  clear hb C
  go_wp2_with fail
  go_ret
  exact ⟨by simp [z], HB.out⟩
 ·clear hb C
  go_wp2_with fail
  go_ret
  exact ⟨rfl, HB.out⟩
end Go.Proofs.YtajomnfeicfdlaaGreatDoor
/- What isNode, isWrong and Check answer. -/
namespace Go.Proofs.YtajomnfeicfdlaaGreatDoor
open Go.Shelf Go.RowKit Go.Lib
set_option linter.unusedVariables false
set_option linter.unusedSimpArgs false
attribute [local go_sem ↓] Go.wp_at_zero Go.wp_at_succ
def nodeP (n : Int) : Bool := decide (0 ≤ n) && decide (n < 8)
theorem isNode_any (n : Int) (w : World) : Calls Tryz.prog 40 #[.int .i64 n] w fun e w' => e = .returned (.bool (nodeP n)) ∧ w' = w := by
 by_cases h0 : 0 ≤ n
 ·by_cases h8 : n < 8
  ·have hr : nodeP n = true := by simp [nodeP, h0, h8]
   rw [hr]
   clear hr
   go_enter Tryz.func40, Tryz.ntmps40
   go_wp2_with fail
   go_ret
   exact ⟨by simp [h0, h8], rfl⟩
  ·have hr : nodeP n = false := by simp [nodeP, h8]
   rw [hr]
   clear hr
   go_enter Tryz.func40, Tryz.ntmps40
   go_wp2_with fail
   go_ret
   exact ⟨by simp [h0, h8], rfl⟩
 ·have hr : nodeP n = false := by simp [nodeP, h0]
  rw [hr]
  clear hr
  go_enter Tryz.func40, Tryz.ntmps40
  go_wp2_with fail
  go_ret
  exact ⟨by simp [h0], rfl⟩
def wrongP (x : Int × Mg) : Bool := !nodeP x.1 || !anP (x.2.k : Int) || wrE x.2 != 0
theorem wrE_01 (x : Mg) : wrE x = 0 ∨ wrE x = 11 := by unfold wrE; split <;> simp
set_option maxRecDepth 100000 in
set_option maxHeartbeats 4000000 in
theorem isWrong_any (x : Int × Mg) (cl : List Value) (K : Nat → Prop) (w : World) (hln : cl.length = 47) (hm : MsgIs K w cl.toArray x.2) (hK : ∀ b, K b → b < w.heap.size) (hT : Lib.Utf8Tabs 0 1 w) (h2 : 1 < w.heap.size) :
  Calls Tryz.prog 35 #[.agg (.int .i64 x.1 :: cl).toArray] w fun e w' => e = .returned (.bool (wrongP x)) ∧ Below w.heap.size w w' := by
 obtain ⟨W0, hW0⟩ : ∃ W0, w.alloc (.cells (Value.int .i64 x.1 :: cl).toArray 73) = W0 := ⟨_, rfl⟩
 have hb0 : Below w.heap.size w W0 := by rw [← hW0]; exact (Below.refl _ _).alloc (Nat.le_refl _) _
 have hg0 : W0.heap[w.heap.size]? = some (.cells (Value.int .i64 x.1 :: cl).toArray 73 (0, 0)) := by rw [← hW0]; exact heap_alloc_new w _
 have hl0 : w.heap.size < W0.heap.size := (Array.getElem?_eq_some_iff.1 hg0).1
 have c0 : W0.cell? ⟨w.heap.size, 0, none⟩ = some (.int .i64 x.1) := cell_of_row hg0 (by simp)
 have HR : Hid (∀ V, Below W0.heap.size W0 V → V.rangeAt w.heap.size 1 cl) := fun V hb j u hj => by
  have := range_box hg0 hb (j + 1) u (by simpa using hj)
  rwa [show 0 + (j + 1) = 1 + j by omega] at this
 have HM : Hid (∀ V, Below w.heap.size w V → Calls Tryz.prog 59 #[.agg cl.toArray] V fun e w' => e = .returned (.int .i64 (wrE x.2)) ∧ Below V.heap.size V w') := fun V hb => check8_any cl K x.2 V (fun b hk => Nat.lt_of_lt_of_le (hK b hk) hb.size) (Utf8Tabs.later hT h2 hb) (Nat.lt_of_lt_of_le h2 hb.size) (hm.keep (fun _ h => h) (kept_of hK hb))
 have hk0 : cl[0]? = some (.int .u8 (x.2.k : Int)) := by simpa using hm.kc
 have HA : Hid (∀ V, Calls Tryz.prog 41 #[.agg cl.toArray] V fun e w' => e = .returned (.bool (anP (x.2.k : Int))) ∧ Below V.heap.size V w') := fun V => isAnswered_any cl _ V hln hk0
 have CN := hid (isNode_any x.1 W0)
 have I63 : Hid ((Tryz.prog.info? 63).map (·.size) = some cl.length) := by show _ = _; rw [hln]; exact size49
 have HB0 : Hid (Below w.heap.size w W0) := hb0
 obtain ⟨nb, hnb⟩ : ∃ nb, nodeP x.1 = nb := ⟨_, rfl⟩
 obtain ⟨ab, hab⟩ : ∃ ab, anP (x.2.k : Int) = ab := ⟨_, rfl⟩
 obtain ⟨r, hr⟩ : ∃ r, wrongP x = r := ⟨_, rfl⟩
 have HRR : Hid ((!nb || !ab || wrE x.2 != 0) = r) := by show _ = _; rw [← hr, ← hnb, ← hab]; rfl
 rw [hr]
 rw [hnb] at CN
 rw [hab] at HA
 have HR0 : Hid (W0.rangeAt w.heap.size 1 cl) := HR.out W0 (Below.refl _ _)
 clear hb0 hg0 hl0 hm hK hT h2 hk0 hnb hab hr
 cases nb with
 | false =>
  have e : r = true := by rw [← HRR.out]; rfl
  subst e
  clear HRR
  go_enter Tryz.func35, Tryz.ntmps35
  go_wp2_with fail
  refine CN.out.mono ?_
  rintro e w1 ⟨rfl, rfl⟩
  clear CN HA HM
  go_wp2_with (first | (refine wpList_load_midH rfl 63 _ rfl w.heap.size 1 rfl cl _ HR0.out Tryz.underlying63 rfl I63.out ?_))
  go_ret
  exact ⟨rfl, HB0.out⟩
 | true =>
  have CA := hid (HA.out W0)
  cases ab with
  | false =>
   have e : r = true := by rw [← HRR.out]; rfl
   subst e
   clear HRR
   go_enter Tryz.func35, Tryz.ntmps35
   go_wp2_with fail
   refine CN.out.mono ?_
   rintro e w1 ⟨rfl, rfl⟩
   clear CN HM HA
   go_wp2_with (first | (refine wpList_load_midH rfl 63 _ rfl w.heap.size 1 rfl cl _ HR0.out Tryz.underlying63 rfl I63.out ?_))
   refine CA.out.mono ?_
   rintro e w2 ⟨rfl, hb2⟩
   have HB2 : Hid (Below w.heap.size w w2) := HB0.out.trans (hb2.mono HB0.out.size)
   clear hb2 CA
   go_wp2_with fail
   go_ret
   exact ⟨rfl, HB2.out⟩
  | true =>
   go_enter Tryz.func35, Tryz.ntmps35
   go_wp2_with fail
   refine CN.out.mono ?_
   rintro e w1 ⟨rfl, rfl⟩
   clear CN HA
   go_wp2_with (first | (refine wpList_load_midH rfl 63 _ rfl w.heap.size 1 rfl cl _ HR0.out Tryz.underlying63 rfl I63.out ?_))
   refine CA.out.mono ?_
   rintro e w2 ⟨rfl, hb2⟩
   have HB2 : Hid (Below w.heap.size w w2) := HB0.out.trans (hb2.mono HB0.out.size)
   have HR2 : Hid (w2.rangeAt w.heap.size 1 cl) := HR.out w2 hb2
   have CM := hid (HM.out w2 HB2.out)
   clear hb2 CA HM HR
   go_wp2_with (first | (refine wpList_load_midH rfl 63 _ rfl w.heap.size 1 rfl cl _ HR2.out Tryz.underlying63 rfl I63.out ?_))
   refine CM.out.mono ?_
   rintro e w3 ⟨rfl, hb3⟩
   have HB3 : Hid (Below w.heap.size w w3) := HB2.out.trans (hb3.mono HB2.out.size)
   clear hb3 CM
   rcases wrE_01 x.2 with h | h
   ·have e : r = false := by rw [← HRR.out, h]; rfl
    subst e
    rw [h]
    clear HRR h
    go_wp2_with fail
    go_ret
    exact ⟨rfl, HB3.out⟩
   ·have e : r = true := by rw [← HRR.out, h]; rfl
    subst e
    rw [h]
    clear HRR h
    go_wp2_with fail
    go_ret
    exact ⟨rfl, HB3.out⟩
def chkP (xs : List (Int × Mg)) : Int := if 512 < xs.length ∨ anyP wrongP xs = true then 6 else 0
theorem enters35 : ∀ args w, (callFunc 35 args).run Tryz.prog w = .ok (.enter 35 args) w := enters_of Tryz.func35 (by kernel_rfl) rfl
set_option maxRecDepth 100000 in
set_option maxHeartbeats 4000000 in
theorem ocheck_any (v : Value) (xs : List (Int × Mg)) (K : Nat → Prop) (w : World) (h : ListIs rAsk 48 648 K w v xs) (hK : ∀ b, K b → b < w.heap.size) (hT : Lib.Utf8Tabs 0 1 w) (h2 : 1 < w.heap.size) :
  Calls Tryz.prog 20 #[.agg #[v]] w fun e w' => e = .returned (.int .i64 (chkP xs)) ∧ Below w.heap.size w w' := by
 obtain ⟨W0, hW0⟩ : ∃ W0, w.alloc (.cells #[v] 38) = W0 := ⟨_, rfl⟩
 have hb0 : Below w.heap.size w W0 := by rw [← hW0]; exact (Below.refl _ _).alloc (Nat.le_refl _) _
 have hg0 : W0.heap[w.heap.size]? = some (.cells #[v] 38 (0, 0)) := by rw [← hW0]; exact heap_alloc_new w _
 have HB0 : Hid (Below w.heap.size w W0) := hb0
 have hK0 : ∀ b, K b → b < W0.heap.size := fun b hk => Nat.lt_of_lt_of_le (hK b hk) hb0.size
 have C := hid (contains_0 wrongP 35 v xs K W0 (ListIs.later mAsk h hK hb0) hK0 enters35 (fun W hb x _ cl hl hm => isWrong_any x cl K W hl hm (fun b hk => Nat.lt_of_lt_of_le (hK0 b hk) hb.size) (Utf8Tabs.later hT h2 (hb0.trans (hb.mono hb0.size))) (Nat.lt_of_lt_of_le h2 (hb0.trans (hb.mono hb0.size)).size)))
 obtain ⟨q, c, rfl, _, _⟩ := id h
 have c0 := cell_of_row (k := 0) hg0 rfl
 obtain ⟨r, hr⟩ : ∃ r, anyP wrongP xs = r := ⟨_, rfl⟩
 rw [hr] at C
 obtain ⟨k, hk⟩ : ∃ k, chkP xs = k := ⟨_, rfl⟩
 have HKK : Hid ((if 512 < xs.length ∨ r = true then (6 : Int) else 0) = k) := by show _ = _; rw [← hk, ← hr]; rfl
 rw [hk]
 clear h hK hK0 hT h2 hb0 hg0 hr hk
 by_cases hl : 512 < xs.length
 ·have e : k = 6 := by rw [← HKK.out, if_pos (.inl hl)]
  subst e
  have z : (512 : Int) < (xs.length : Int) := by omega
  clear HKK
  go_enter Tryz.func20, Tryz.ntmps20
  go_wp2_with fail
  go_ret
  exact ⟨rfl, HB0.out⟩
 ·have z : ¬ (512 : Int) < (xs.length : Int) := by omega
  cases r with
  | true =>
   have e : k = 6 := by rw [← HKK.out, if_pos (.inr rfl)]
   subst e
   clear HKK
   go_enter Tryz.func20, Tryz.ntmps20
   go_wp2_with fail
   refine C.out.mono ?_
   rintro e w1 ⟨rfl, hb1⟩
   have HB1 : Hid (Below w.heap.size w w1) := HB0.out.trans (hb1.mono HB0.out.size)
   clear hb1 C
   go_wp2_with fail
   go_ret
   exact ⟨rfl, HB1.out⟩
  | false =>
   have e : k = 0 := by rw [← HKK.out, if_neg (by simp [hl])]
   subst e
   clear HKK
   go_enter Tryz.func20, Tryz.ntmps20
   go_wp2_with fail
   refine C.out.mono ?_
   rintro e w1 ⟨rfl, hb1⟩
   have HB1 : Hid (Below w.heap.size w w1) := HB0.out.trans (hb1.mono HB0.out.size)
   clear hb1 C
   go_wp2_with fail
   go_ret
   exact ⟨rfl, HB1.out⟩
end Go.Proofs.YtajomnfeicfdlaaGreatDoor
/- Whether a message is asked already: textOf, isOpen. -/
namespace Go.Proofs.YtajomnfeicfdlaaGreatDoor
open Go.Shelf Go.RowKit Go.Lib
set_option linter.unusedVariables false
set_option linter.unusedSimpArgs false
attribute [local go_sem ↓] Go.wp_at_zero Go.wp_at_succ
set_option maxRecDepth 100000 in
set_option maxHeartbeats 4000000 in
theorem textOf_any (cl : List Value) (x : Mg) (K : Nat → Prop) (w : World) (hm : MsgIs K w cl.toArray x) (hK : ∀ b, K b → b < w.heap.size) (hT : Lib.Utf8Tabs 0 1 w) (h2 : 1 < w.heap.size) :
  Calls Tryz.prog 65 #[.agg cl.toArray] w fun e w' => e = .returned (.string (wrS x)) ∧ Below w.heap.size w w' := by
 have hln : cl.length = 47 := by simpa using hm.size
 obtain ⟨W0, hW0⟩ : ∃ W0, w.alloc (.cells cl.toArray 63) = W0 := ⟨_, rfl⟩
 have hb0 : Below w.heap.size w W0 := by rw [← hW0]; exact (Below.refl _ _).alloc (Nat.le_refl _) _
 have hg0 : W0.heap[w.heap.size]? = some (.cells cl.toArray 63 (0, 0)) := by rw [← hW0]; exact heap_alloc_new w _
 have HR : Hid (W0.rangeAt w.heap.size 0 cl) := range_box hg0 (Below.refl _ _)
 have C := hid (write_any cl.toArray K x W0 (fun b hk => Nat.lt_of_lt_of_le (hK b hk) hb0.size) (Utf8Tabs.later hT h2 hb0) (Nat.lt_of_lt_of_le h2 hb0.size) (hm.keep (fun _ h => h) (kept_of hK hb0)))
 have I63 : Hid ((Tryz.prog.info? 63).map (·.size) = some cl.length) := by show _ = _; rw [hln]; exact size49
 have HB0 : Hid (Below w.heap.size w W0) := hb0
 clear hb0 hg0 hm hK hT h2 hln
 go_enter Tryz.func65, Tryz.ntmps65
 go_wp2_with (refine wpList_load_mid rfl 63 _ rfl w.heap.size 0 rfl cl _ HR.out Tryz.underlying63 rfl I63.out ?_)
 refine C.out.mono ?_
 rintro e w1 ⟨rfl, hb1⟩
 have HB1 : Hid (Below w.heap.size w w1) := HB0.out.trans (hb1.mono HB0.out.size)
 clear hb1 C
 go_wp2_with fail
 go_ret
 exact ⟨rfl, HB1.out⟩
/-- Whether one that was asked is that message, of that node. -/
def openP (tn : Int) (tx : ByteArray) (x : Int × Mg) : Bool := decide (x.1 = tn) && ((wrS x.2).toList == tx.toList)
set_option maxRecDepth 100000 in
set_option maxHeartbeats 4000000 in
theorem isOpen1_any (f1 f2 : Addr) (tn : Int) (tx : ByteArray) (x : Int × Mg) (cl : List Value) (K : Nat → Prop) (w : World) (hf1 : w.cell? f1 = some (.int .i64 tn)) (hf2 : w.cell? f2 = some (.string tx)) (hl1 : f1.block < w.heap.size) (hl2 : f2.block < w.heap.size) (hln : cl.length = 47) (hm : MsgIs K w cl.toArray x.2) (hK : ∀ b, K b → b < w.heap.size) (hT : Lib.Utf8Tabs 0 1 w) (h2 : 1 < w.heap.size) :
  Calls Tryz.prog 64 #[.agg (.int .i64 x.1 :: cl).toArray, .pointer (some f1), .pointer (some f2)] w fun e w' => e = .returned (.bool (openP tn tx x)) ∧ Below w.heap.size w w' := by
 obtain ⟨W0, hW0⟩ : ∃ W0, w.alloc (.cells (Value.int .i64 x.1 :: cl).toArray 73) = W0 := ⟨_, rfl⟩
 have hb0 : Below w.heap.size w W0 := by rw [← hW0]; exact (Below.refl _ _).alloc (Nat.le_refl _) _
 have hg0 : W0.heap[w.heap.size]? = some (.cells (Value.int .i64 x.1 :: cl).toArray 73 (0, 0)) := by rw [← hW0]; exact heap_alloc_new w _
 have HB0 : Hid (Below w.heap.size w W0) := hb0
 have hS : W0.drew.rangeAt w.heap.size 0 (.int .i64 x.1 :: cl) ∧ W0.drew.cell? f1 = some (.int .i64 tn) ∧ W0.drew.cell? f2 = some (.string tx) := ⟨range_box hg0 (Below.refl _ _).drew, (hb0.cell (p := f1) hl1).trans hf1, (hb0.cell (p := f2) hl2).trans hf2⟩
 have HS := hid hS
 have C : Hid (Calls Tryz.prog 65 #[.agg cl.toArray] W0.drew fun e w' => e = .returned (.string (wrS x.2)) ∧ Below W0.heap.size W0.drew w') := textOf_any cl x.2 K W0.drew (hm.keep (fun _ h => h) (kept_of hK hb0.drew)) (fun b hk => Nat.lt_of_lt_of_le (hK b hk) hb0.size) (Utf8Tabs.later hT h2 hb0.drew) (Nat.lt_of_lt_of_le h2 hb0.size)
 have I63 : Hid ((Tryz.prog.info? 63).map (·.size) = some cl.length) := by show _ = _; rw [hln]; exact size49
 have HL : Hid (w.heap.size < W0.heap.size ∧ f1.block < W0.heap.size ∧ f2.block < W0.heap.size) := ⟨(Array.getElem?_eq_some_iff.1 hg0).1, Nat.lt_of_lt_of_le hl1 hb0.size, Nat.lt_of_lt_of_le hl2 hb0.size⟩
 clear hb0 hg0 hm hK hT h2 hf1 hf2 hS hl1 hl2
 by_cases hx : x.1 = tn
 ·subst hx
  obtain ⟨r, hr⟩ : ∃ r, ((wrS x.2).toList == tx.toList) = r := ⟨_, rfl⟩
  have hq : openP x.1 tx x = r := by unfold openP; rw [hr]; simp
  rw [hq]
  obtain ⟨T, hTT⟩ : ∃ T, wrS x.2 = T := ⟨_, rfl⟩
  rw [hTT] at C hr
  clear hq hTT
  go_enter Tryz.func64, Tryz.ntmps64
  go_wp2_with fail
  refine wp_region_held_drew (S := fun W => W.rangeAt w.heap.size 0 (.int .i64 x.1 :: cl) ∧ W.cell? f1 = some (.int .i64 x.1) ∧ W.cell? f2 = some (.string tx)) (by kernel_rfl) HS.out (fun hHeld => ?_)
  refine wpAnyH_take (i := 0) (v := .pointer (some ⟨w.heap.size, 0, none⟩)) rfl (by kernel_rfl) (by kernel_rfl) (by kernel_rfl) (fun _ _ _ h => h) (.inl ⟨by rfl, fun W hW => by go_simp⟩) hHeld ?_
  simp only [Act.put, List.getElem_toArray, List.getElem_cons_zero, List.getElem_cons_succ, List.setIfInBounds_toArray, List.set_cons_zero, List.set_cons_succ]
  refine wpAnyH_take (i := 1) (v := .int .i64 x.1) rfl (by kernel_rfl) (by kernel_rfl) (by kernel_rfl) (fun _ _ _ h => h) (.inl ⟨by rfl, fun W hW => by
   have c0 : W.cell? ⟨w.heap.size, 0, none⟩ = some (.int .i64 x.1) := by simpa using hW.1 0 _ rfl
   go_simp⟩) hHeld ?_
  simp only [Act.put, List.getElem_toArray, List.getElem_cons_zero, List.getElem_cons_succ, List.setIfInBounds_toArray, List.set_cons_zero, List.set_cons_succ]
  refine wpAnyH_take (i := 2) (v := .int .i64 x.1) rfl (by kernel_rfl) (by kernel_rfl) (by kernel_rfl) (fun _ _ _ h => h) (.inl ⟨by rfl, fun W hW => by
   have c1 := hW.2.1
   go_simp⟩) hHeld ?_
  simp only [Act.put, List.getElem_toArray, List.getElem_cons_zero, List.getElem_cons_succ, List.setIfInBounds_toArray, List.set_cons_zero, List.set_cons_succ]
  refine wpAnyH_take (i := 3) (v := .bool true) rfl (by kernel_rfl) (by kernel_rfl) (by kernel_rfl) (fun _ _ _ h => h) (.inl ⟨by rfl, fun W hW => by go_simp⟩) hHeld ?_
  simp only [Act.put, List.getElem_toArray, List.getElem_cons_zero, List.getElem_cons_succ, List.setIfInBounds_toArray, List.set_cons_zero, List.set_cons_succ]
  refine wpAnyH_take (i := 4) (v := .bool true) rfl (by kernel_rfl) (by kernel_rfl) (by kernel_rfl) (fun _ _ _ h => h) (.inl ⟨by rfl, fun W hW => by go_simp⟩) hHeld ?_
  simp only [Act.put, List.getElem_toArray, List.getElem_cons_zero, List.getElem_cons_succ, List.setIfInBounds_toArray, List.set_cons_zero, List.set_cons_succ]
  refine wpAnyH_take (i := 5) (v := .pointer (some ⟨w.heap.size, 1, none⟩)) rfl (by kernel_rfl) (by kernel_rfl) (by kernel_rfl) (fun _ _ _ h => h) (.inl ⟨by rfl, fun W hW => by go_simp⟩) hHeld ?_
  simp only [Act.put, List.getElem_toArray, List.getElem_cons_zero, List.getElem_cons_succ, List.setIfInBounds_toArray, List.set_cons_zero, List.set_cons_succ]
  refine wpAnyH_take (i := 6) (v := .agg cl.toArray) rfl (by kernel_rfl) (by kernel_rfl) (by kernel_rfl) (fun _ _ _ h => h) (yieldsIf_load_mid (by rfl) 63 (.tmp 10) rfl w.heap.size 1 rfl cl _ (fun W hW j u hj => by have := hW.1 (j + 1) u (by simpa using hj); rwa [show 0 + (j + 1) = 1 + j by omega] at this) Tryz.underlying63 rfl I63.out) hHeld ?_
  simp only [Act.put, List.getElem_toArray, List.getElem_cons_zero, List.getElem_cons_succ, List.setIfInBounds_toArray, List.set_cons_zero, List.set_cons_succ]
  refine wpAnyH_take (i := 8) (v := .string tx) rfl (by kernel_rfl) (by kernel_rfl) (by kernel_rfl) (fun _ _ _ h => h) (.inl ⟨by rfl, fun W hW => by
   have c2 := hW.2.2
   go_simp⟩) hHeld ?_
  simp only [Act.put, List.getElem_toArray, List.getElem_cons_zero, List.getElem_cons_succ, List.setIfInBounds_toArray, List.set_cons_zero, List.set_cons_succ]
  refine wpAnyH_ready (rs := [7]) (by kernel_rfl) (by simp) ?_
  refine AllReadyH.cons rfl (fun K' hK => ?_) AllReadyH.nil
  rw [if_pos (by rfl)]
  go_simp
  go_at_call 65
  refine C.out.mono ?_
  rintro e w5 ⟨rfl, hb5⟩
  have HB5 : Hid (Below w.heap.size w w5) := HB0.out.drew.trans (hb5.mono (Nat.le_of_lt HL.out.1))
  have hS5 : w5.rangeAt w.heap.size 0 (.int .i64 x.1 :: cl) ∧ w5.cell? f1 = some (.int .i64 x.1) ∧ w5.cell? f2 = some (.string tx) := ⟨range_of_block hHeld.1 (hb5.block _ HL.out.1), (hb5.cell (p := f1) HL.out.2.1).trans hHeld.2.1, (hb5.cell (p := f2) HL.out.2.2).trans hHeld.2.2⟩
  clear hb5 C HS
  refine hK.out _ _ hS5 (fun hHeld => ?_)
  clear hK K' hS5
  refine wpAnyH_take (i := 9) (v := .bool r) rfl (by kernel_rfl) (by kernel_rfl) (by kernel_rfl) (fun _ _ _ h => h) (.inl ⟨by rfl, fun W hW => by go_simp⟩) hHeld ?_
  simp only [Act.put, List.getElem_toArray, List.getElem_cons_zero, List.getElem_cons_succ, List.setIfInBounds_toArray, List.set_cons_zero, List.set_cons_succ]
  refine wpAnyH_take (i := 10) (v := .bool r) rfl (by kernel_rfl) (by kernel_rfl) (by kernel_rfl) (fun _ _ _ h => h) (.inl ⟨by rfl, fun W hW => by go_simp⟩) hHeld ?_
  simp only [Act.put, List.getElem_toArray, List.getElem_cons_zero, List.getElem_cons_succ, List.setIfInBounds_toArray, List.set_cons_zero, List.set_cons_succ]
  refine wpAnyH_take (i := 11) (v := .bool r) rfl (by kernel_rfl) (by kernel_rfl) (by kernel_rfl) (fun _ _ _ h => h) (.inl ⟨by rfl, fun W hW => by go_simp⟩) hHeld ?_
  simp only [Act.put, List.getElem_toArray, List.getElem_cons_zero, List.getElem_cons_succ, List.setIfInBounds_toArray, List.set_cons_zero, List.set_cons_succ]
  refine wpAnyH_done (by kernel_rfl) ?_ _
  clear hHeld
  go_wp2_with fail
  go_ret
  exact ⟨rfl, HB5.out⟩
 ·have hq : openP tn tx x = false := by unfold openP; simp [hx]
  rw [hq]
  have hne : (x.1 == tn) = false := beq_eq_false_iff_ne.2 hx
  have hnd : decide (x.1 = tn) = false := by simp [hx]
  clear hq C
  go_enter Tryz.func64, Tryz.ntmps64
  go_wp2_with fail
  refine wp_region_held_drew (S := fun W => W.rangeAt w.heap.size 0 (.int .i64 x.1 :: cl) ∧ W.cell? f1 = some (.int .i64 tn) ∧ W.cell? f2 = some (.string tx)) (by kernel_rfl) HS.out (fun hHeld => ?_)
  refine wpAnyH_take (i := 0) (v := .pointer (some ⟨w.heap.size, 0, none⟩)) rfl (by kernel_rfl) (by kernel_rfl) (by kernel_rfl) (fun _ _ _ h => h) (.inl ⟨by rfl, fun W hW => by go_simp⟩) hHeld ?_
  simp only [Act.put, List.getElem_toArray, List.getElem_cons_zero, List.getElem_cons_succ, List.setIfInBounds_toArray, List.set_cons_zero, List.set_cons_succ]
  refine wpAnyH_take (i := 1) (v := .int .i64 x.1) rfl (by kernel_rfl) (by kernel_rfl) (by kernel_rfl) (fun _ _ _ h => h) (.inl ⟨by rfl, fun W hW => by
   have c0 : W.cell? ⟨w.heap.size, 0, none⟩ = some (.int .i64 x.1) := by simpa using hW.1 0 _ rfl
   go_simp⟩) hHeld ?_
  simp only [Act.put, List.getElem_toArray, List.getElem_cons_zero, List.getElem_cons_succ, List.setIfInBounds_toArray, List.set_cons_zero, List.set_cons_succ]
  refine wpAnyH_take (i := 2) (v := .int .i64 tn) rfl (by kernel_rfl) (by kernel_rfl) (by kernel_rfl) (fun _ _ _ h => h) (.inl ⟨by rfl, fun W hW => by
   have c1 := hW.2.1
   go_simp⟩) hHeld ?_
  simp only [Act.put, List.getElem_toArray, List.getElem_cons_zero, List.getElem_cons_succ, List.setIfInBounds_toArray, List.set_cons_zero, List.set_cons_succ]
  refine wpAnyH_take (i := 3) (v := .bool false) rfl (by kernel_rfl) (by kernel_rfl) (by kernel_rfl) (fun _ _ _ h => h) (.inl ⟨by rfl, fun W hW => by go_simp⟩) hHeld ?_
  simp only [Act.put, List.getElem_toArray, List.getElem_cons_zero, List.getElem_cons_succ, List.setIfInBounds_toArray, List.set_cons_zero, List.set_cons_succ]
  refine wpAnyH_take (i := 4) (v := .bool false) rfl (by kernel_rfl) (by kernel_rfl) (by kernel_rfl) (fun _ _ _ h => h) (.inl ⟨by rfl, fun W hW => by go_simp⟩) hHeld ?_
  simp only [Act.put, List.getElem_toArray, List.getElem_cons_zero, List.getElem_cons_succ, List.setIfInBounds_toArray, List.set_cons_zero, List.set_cons_succ]
  refine wpAnyH_take (i := 5) (v := undef) rfl (by kernel_rfl) (by kernel_rfl) (by kernel_rfl) (fun _ _ _ h => h) (.inr ⟨by rfl, rfl⟩) hHeld ?_
  simp only [Act.put, List.getElem_toArray, List.getElem_cons_zero, List.getElem_cons_succ, List.setIfInBounds_toArray, List.set_cons_zero, List.set_cons_succ]
  refine wpAnyH_take (i := 6) (v := undef) rfl (by kernel_rfl) (by kernel_rfl) (by kernel_rfl) (fun _ _ _ h => h) (.inr ⟨by rfl, rfl⟩) hHeld ?_
  simp only [Act.put, List.getElem_toArray, List.getElem_cons_zero, List.getElem_cons_succ, List.setIfInBounds_toArray, List.set_cons_zero, List.set_cons_succ]
  refine wpAnyH_take (i := 7) (v := undef) rfl (by kernel_rfl) (by kernel_rfl) (by kernel_rfl) (fun _ _ _ h => h) (.inr ⟨by rfl, rfl⟩) hHeld ?_
  simp only [Act.put, List.getElem_toArray, List.getElem_cons_zero, List.getElem_cons_succ, List.setIfInBounds_toArray, List.set_cons_zero, List.set_cons_succ]
  refine wpAnyH_take (i := 8) (v := undef) rfl (by kernel_rfl) (by kernel_rfl) (by kernel_rfl) (fun _ _ _ h => h) (.inr ⟨by rfl, rfl⟩) hHeld ?_
  simp only [Act.put, List.getElem_toArray, List.getElem_cons_zero, List.getElem_cons_succ, List.setIfInBounds_toArray, List.set_cons_zero, List.set_cons_succ]
  refine wpAnyH_take (i := 9) (v := undef) rfl (by kernel_rfl) (by kernel_rfl) (by kernel_rfl) (fun _ _ _ h => h) (.inr ⟨by rfl, rfl⟩) hHeld ?_
  simp only [Act.put, List.getElem_toArray, List.getElem_cons_zero, List.getElem_cons_succ, List.setIfInBounds_toArray, List.set_cons_zero, List.set_cons_succ]
  refine wpAnyH_take (i := 10) (v := .bool false) rfl (by kernel_rfl) (by kernel_rfl) (by kernel_rfl) (fun _ _ _ h => h) (.inl ⟨by rfl, fun W hW => by go_simp⟩) hHeld ?_
  simp only [Act.put, List.getElem_toArray, List.getElem_cons_zero, List.getElem_cons_succ, List.setIfInBounds_toArray, List.set_cons_zero, List.set_cons_succ]
  refine wpAnyH_take (i := 11) (v := .bool false) rfl (by kernel_rfl) (by kernel_rfl) (by kernel_rfl) (fun _ _ _ h => h) (.inl ⟨by rfl, fun W hW => by go_simp⟩) hHeld ?_
  simp only [Act.put, List.getElem_toArray, List.getElem_cons_zero, List.getElem_cons_succ, List.setIfInBounds_toArray, List.set_cons_zero, List.set_cons_succ]
  refine wpAnyH_done (by kernel_rfl) ?_ _
  clear hHeld
  go_wp2_with fail
  go_ret
  exact ⟨rfl, HB0.out.drew⟩
end Go.Proofs.YtajomnfeicfdlaaGreatDoor
