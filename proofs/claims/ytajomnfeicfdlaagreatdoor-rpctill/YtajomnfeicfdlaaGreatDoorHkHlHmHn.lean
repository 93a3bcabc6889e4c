/- What isOpen answers. -/
import Derived.Test.YtajomnfeicfdlaaGreatDoorHhHiHj
namespace Go.Proofs.YtajomnfeicfdlaaGreatDoor
open Go.Shelf Go.RowKit Go.Lib
set_option linter.unusedVariables false
set_option linter.unusedSimpArgs false
attribute [local go_sem ↓] Go.wp_at_zero Go.wp_at_succ
theorem enters64 : ∀ args w, (callFunc 64 args).run Tryz.prog w = .ok (.enter 64 args) w := enters_of Tryz.func64 (by kernel_rfl) rfl
theorem three_boxes (w : World) (a b c : Array Value) (t1 t2 t3 : TypeId) : ∃ W0, ((w.alloc (.cells a t1)).alloc (.cells b t2)).alloc (.cells c t3) = W0 ∧ Below w.heap.size w W0 ∧ W0.heap.size = w.heap.size + 3 ∧ W0.heap[w.heap.size]? = some (.cells a t1 (0, 0)) ∧ W0.heap[w.heap.size + 1]? = some (.cells b t2 (0, 0)) ∧ W0.heap[w.heap.size + 1 + 1]? = some (.cells c t3 (0, 0)) := by
 refine ⟨_, rfl, (((Below.refl _ _).alloc (Nat.le_refl _) _).alloc (by simp) _).alloc (by simp; omega) _, by simp, ?_, ?_, ?_⟩
 ·rw [hao _ _ _ (by simp; omega), hao _ _ _ (by simp)]; exact heap_alloc_new w _
 ·rw [hao _ _ _ (by simp)]
  have := heap_alloc_new (w.alloc (.cells a t1)) (.cells b t2)
  simpa using this
 ·have := heap_alloc_new ((w.alloc (.cells a t1)).alloc (.cells b t2)) (.cells c t3)
  simpa using this
set_option maxRecDepth 100000 in
set_option maxHeartbeats 4000000 in
theorem isOpen_any (v : Value) (tn : Int) (tx : ByteArray) (xs : List (Int × Mg)) (K : Nat → Prop) (w : World) (h : ListIs rAsk 48 648 K w v xs) (hK : ∀ b, K b → b < w.heap.size) (hT : Lib.Utf8Tabs 0 1 w) (h2 : 1 < w.heap.size) :
  Calls Tryz.prog 42 #[.agg #[v], .int .i64 tn, .string tx] w fun e w' => e = .returned (.bool (anyP (openP tn tx) xs)) ∧ Below w.heap.size w w' := by
 obtain ⟨W0, hW0, hb0, hs0, g0, g1, g2⟩ := three_boxes w #[v] #[.int .i64 tn] #[.string tx] 38 3 9
 have HB0 : Hid (Below w.heap.size w W0) := hb0
 have hK0 : ∀ b, K b → b < W0.heap.size := fun b hk => Nat.lt_of_lt_of_le (hK b hk) hb0.size
 have e1 := cell_of_row (k := 0) g1 rfl
 have e2 := cell_of_row (k := 0) g2 rfl
 have C := hid (contains_2 ⟨w.heap.size + 1, 0, none⟩ ⟨w.heap.size + 1 + 1, 0, none⟩ (openP tn tx) 64 v xs K W0 (ListIs.later mAsk h hK hb0) hK0 enters64 (fun W hb x _ cl hl hm => isOpen1_any ⟨w.heap.size + 1, 0, none⟩ ⟨w.heap.size + 1 + 1, 0, none⟩ tn tx x cl K W ((hb.cell (p := ⟨w.heap.size + 1, 0, none⟩) (by show w.heap.size + 1 < _; omega)).trans e1) ((hb.cell (p := ⟨w.heap.size + 1 + 1, 0, none⟩) (by show w.heap.size + 1 + 1 < _; omega)).trans e2) (by show w.heap.size + 1 < _; have := hb.size; omega) (by show w.heap.size + 1 + 1 < _; have := hb.size; omega) hl hm (fun b hk => Nat.lt_of_lt_of_le (hK0 b hk) hb.size) (Utf8Tabs.later hT h2 (hb0.trans (hb.mono hb0.size))) (Nat.lt_of_lt_of_le h2 (hb0.trans (hb.mono hb0.size)).size)))
 obtain ⟨q, c, rfl, _, _⟩ := id h
 have c0 := cell_of_row (k := 0) g0 rfl
 obtain ⟨r, hr⟩ : ∃ r, anyP (openP tn tx) xs = r := ⟨_, rfl⟩
 rw [hr] at C ⊢
 clear h hK hK0 hT h2 hb0 g0 g1 g2 hr e1 e2 hs0
 go_enter Tryz.func42, Tryz.ntmps42
 go_wp2_with fail
 refine C.out.mono ?_
 rintro e w1 ⟨rfl, hb1⟩
 have HB1 : Hid (Below w.heap.size w w1) := HB0.out.trans (hb1.mono HB0.out.size)
 clear hb1 C
 go_wp2_with fail
 go_ret
 exact ⟨rfl, HB1.out⟩
end Go.Proofs.YtajomnfeicfdlaaGreatDoor
/- Why a message may not be asked: refuse. -/
namespace Go.Proofs.YtajomnfeicfdlaaGreatDoor
open Go.Shelf Go.RowKit Go.Lib
set_option linter.unusedVariables false
set_option linter.unusedSimpArgs false
attribute [local go_sem ↓] Go.wp_at_zero Go.wp_at_succ
def refP (xs : List (Int × Mg)) (tn : Int) (m : Mg) : Int :=
 if chkP xs = 6 then 6 else if nodeP tn = false then 2 else if wrE m = 11 then 11 else if anP (m.k : Int) = false then 5 else if anyP (openP tn (wrS m)) xs = true then 15 else if 512 ≤ xs.length then 8 else 0
theorem chk_01 (xs : List (Int × Mg)) : chkP xs = 6 ∨ chkP xs = 0 := by unfold chkP; split <;> simp
set_option maxRecDepth 100000 in
set_option maxHeartbeats 8000000 in
theorem refuse_any (v : Value) (tn : Int) (cl : List Value) (m : Mg) (xs : List (Int × Mg)) (K : Nat → Prop) (w : World) (h : ListIs rAsk 48 648 K w v xs) (hm : MsgIs K w cl.toArray m) (hK : ∀ b, K b → b < w.heap.size) (hT : Lib.Utf8Tabs 0 1 w) (h2 : 1 < w.heap.size) :
  Calls Tryz.prog 29 #[.agg #[v], .int .i64 tn, .agg cl.toArray] w fun e w' => e = .returned (.int .i64 (refP xs tn m)) ∧ Below w.heap.size w w' := by
 have hln : cl.length = 47 := by simpa using hm.size
 obtain ⟨W0, hW0⟩ : ∃ W0, (w.alloc (.cells #[v] 38)).alloc (.cells cl.toArray 63) = W0 := ⟨_, rfl⟩
 have hb0 : Below w.heap.size w W0 := by rw [← hW0]; exact ((Below.refl _ _).alloc (Nat.le_refl _) _).alloc (by simp) _
 have g0 : W0.heap[w.heap.size]? = some (.cells #[v] 38 (0, 0)) := by rw [← hW0, hao _ _ _ (by simp)]; exact heap_alloc_new w _
 have g1 : W0.heap[w.heap.size + 1]? = some (.cells cl.toArray 63 (0, 0)) := by
  rw [← hW0]
  have := heap_alloc_new (w.alloc (.cells #[v] 38)) (.cells cl.toArray 63)
  simpa using this
 have hl1 : w.heap.size + 1 < W0.heap.size := (Array.getElem?_eq_some_iff.1 g1).1
 have HV : Hid (∀ V, Below W0.heap.size W0 V → V.cell? ⟨w.heap.size, 0, none⟩ = some v ∧ V.rangeAt (w.heap.size + 1) 0 cl ∧ Below w.heap.size w V) := fun V hb => ⟨(hb.cell (p := ⟨w.heap.size, 0, none⟩) (by show w.heap.size < _; omega)).trans (cell_of_row g0 rfl), range_box g1 hb, hb0.trans (hb.mono hb0.size)⟩
 have HTB : Hid (∀ V, Below w.heap.size w V → Lib.Utf8Tabs 0 1 V ∧ 1 < V.heap.size ∧ (∀ b, K b → b < V.heap.size) ∧ ListIs rAsk 48 648 K V v xs ∧ MsgIs K V cl.toArray m) := fun V hb => ⟨Utf8Tabs.later hT h2 hb, Nat.lt_of_lt_of_le h2 hb.size, fun b hk => Nat.lt_of_lt_of_le (hK b hk) hb.size, ListIs.later mAsk h hK hb, hm.keep (fun _ h => h) (kept_of hK hb)⟩
 have I63 : Hid ((Tryz.prog.info? 63).map (·.size) = some cl.length) := by show _ = _; rw [hln]; exact size49
 have hk0 : cl[0]? = some (.int .u8 (m.k : Int)) := by simpa using hm.kc
 have HK0 : Hid (cl.length = 47 ∧ cl[0]? = some (.int .u8 (m.k : Int))) := ⟨hln, hk0⟩
 have CW : Hid (Calls Tryz.prog 39 #[.agg cl.toArray] W0 fun e w' => e = .returned (.tuple #[.string (wrS m), .int .i64 (wrE m)]) ∧ Below W0.heap.size W0 w') := by
  obtain ⟨t1, t2, t3, _, t5⟩ := HTB.out W0 hb0
  exact write_any cl.toArray K m W0 t3 t1 t2 t5
 have HR0 : Hid (W0.rangeAt (w.heap.size + 1) 0 cl) := (HV.out W0 (Below.refl _ _)).2.1
 obtain ⟨q, c, rfl, _, _⟩ := id h
 obtain ⟨k, hk⟩ : ∃ k, refP xs tn m = k := ⟨_, rfl⟩
 have HKK : Hid (refP xs tn m = k) := hk
 rw [hk]
 clear h hm hK hT h2 hb0 g0 g1 hl1 hln hk0 hk
 unfold refP at HKK
 go_enter Tryz.func29, Tryz.ntmps29
 go_wp2_with (refine wpList_load_mid rfl 63 _ rfl (w.heap.size + 1) 0 rfl cl _ HR0.out Tryz.underlying63 rfl I63.out ?_)
 refine CW.out.mono ?_
 rintro e w1 ⟨rfl, hb1⟩
 have HB1 : Hid (Below W0.heap.size W0 w1) := hb1
 obtain ⟨x1, x2, x3⟩ := HV.out w1 hb1
 have C2 : Hid (Calls Tryz.prog 20 #[.agg #[.slice q xs.length c]] w1 fun e w' => e = .returned (.int .i64 (chkP xs)) ∧ Below w1.heap.size w1 w') := by
  obtain ⟨t1, t2, t3, t4, t5⟩ := HTB.out w1 x3
  exact ocheck_any _ xs K w1 t4 t3 t1 t2
 clear hb1 CW x2 x3
 go_wp2_with fail
 refine C2.out.mono ?_
 rintro e w2 ⟨rfl, hb2⟩
 have HB2 : Hid (Below W0.heap.size W0 w2) := HB1.out.trans (hb2.mono HB1.out.size)
 clear hb2 C2 x1
 rcases chk_01 xs with h6 | h6
 ·rw [h6] at HKK ⊢
  have e6 : k = 6 := by rw [← HKK.out, if_pos rfl]
  subst e6
  clear HKK h6
  go_wp2_with fail
  go_ret
  exact ⟨rfl, (HV.out w2 HB2.out).2.2⟩
 ·rw [h6] at HKK ⊢
  rw [if_neg (by decide)] at HKK
  have CN := hid (isNode_any tn w2)
  clear h6
  go_wp2_with fail
  refine CN.out.mono ?_
  rintro e w3 ⟨rfl, rfl⟩
  clear CN
  cases hn : nodeP tn with
  | false =>
   have e2 : k = 2 := by rw [← HKK.out, hn, if_pos rfl]
   subst e2
   clear HKK hn
   go_wp2_with fail
   go_ret
   exact ⟨rfl, (HV.out _ HB2.out).2.2⟩
  | true =>
   rw [hn, if_neg (by decide)] at HKK
   clear hn
   rcases wrE_01 m with he | he
   ·rw [he] at HKK ⊢
    rw [if_neg (by decide)] at HKK
    clear he
    have HR3 : Hid (w3.rangeAt (w.heap.size + 1) 0 cl) := (HV.out w3 HB2.out).2.1
    have CA := hid (isAnswered_any cl (m.k : Int) w3 HK0.out.1 HK0.out.2)
    go_wp2_with (refine wpList_load_mid rfl 63 _ rfl (w.heap.size + 1) 0 rfl cl _ HR3.out Tryz.underlying63 rfl I63.out ?_)
    refine CA.out.mono ?_
    rintro e w4 ⟨rfl, hb4⟩
    have HB4 : Hid (Below W0.heap.size W0 w4) := HB2.out.trans (hb4.mono HB2.out.size)
    clear CA hb4 HR3
    cases ha : anP (m.k : Int) with
    | false =>
     have e5 : k = 5 := by rw [← HKK.out, ha, if_pos rfl]
     subst e5
     clear HKK ha
     go_wp2_with fail
     go_ret
     exact ⟨rfl, (HV.out _ HB4.out).2.2⟩
    | true =>
     rw [ha, if_neg (by decide)] at HKK
     clear ha
     obtain ⟨y1, y2, y3⟩ := HV.out w4 HB4.out
     have CO : Hid (Calls Tryz.prog 42 #[.agg #[.slice q xs.length c], .int .i64 tn, .string (wrS m)] w4 fun e w' => e = .returned (.bool (anyP (openP tn (wrS m)) xs)) ∧ Below w4.heap.size w4 w') := by
      obtain ⟨t1, t2, t3, t4, t5⟩ := HTB.out w4 y3
      exact isOpen_any _ tn (wrS m) xs K w4 t4 t3 t1 t2
     clear y2 y3
     go_wp2_with fail
     refine CO.out.mono ?_
     rintro e w5 ⟨rfl, hb5⟩
     have HB5 : Hid (Below W0.heap.size W0 w5) := HB4.out.trans (hb5.mono HB4.out.size)
     clear CO hb5 y1
     cases ho : anyP (openP tn (wrS m)) xs with
     | true =>
      have e15 : k = 15 := by rw [← HKK.out, ho, if_pos rfl]
      subst e15
      clear HKK ho
      go_wp2_with fail
      go_ret
      exact ⟨rfl, (HV.out _ HB5.out).2.2⟩
     | false =>
      rw [ho, if_neg (by decide)] at HKK
      clear ho
      obtain ⟨y1, y2, y3⟩ := HV.out w5 HB5.out
      clear y2 y3
      by_cases hl : 512 ≤ xs.length
      ·have e8 : k = 8 := by rw [← HKK.out, if_pos hl]
       subst e8
       have z : (512 : Int) ≤ (xs.length : Int) := by omega
       clear HKK
       go_wp2_with fail
       go_ret
       exact ⟨rfl, (HV.out _ HB5.out).2.2⟩
      ·have e0 : k = 0 := by rw [← HKK.out, if_neg hl]
       subst e0
       have z : ¬ (512 : Int) ≤ (xs.length : Int) := by omega
       clear HKK
       go_wp2_with fail
       go_ret
       exact ⟨rfl, (HV.out _ HB5.out).2.2⟩
   ·rw [he] at HKK ⊢
    have e11 : k = 11 := by rw [← HKK.out, if_pos rfl]
    subst e11
    clear HKK he
    go_wp2_with fail
    go_ret
    exact ⟨rfl, (HV.out _ HB2.out).2.2⟩
end Go.Proofs.YtajomnfeicfdlaaGreatDoor
/- A list that is being made, beside a box of its own. -/
namespace Go.Proofs.YtajomnfeicfdlaaGreatDoor
open Go.Shelf Go.RowKit Go.Lib
set_option linter.unusedVariables false
set_option linter.unusedSimpArgs false
attribute [local go_sem ↓] Go.wp_at_zero Go.wp_at_succ
/-- A list that is being made: a row of one's own whose parts lie elsewhere, in new memory too. -/
def OwnN {α : Type} (rel : Rel α) (size : Nat) (te : TypeId) (base lb : Nat) (W : World) (u : Value) (xs : List α) : Prop :=
 ∃ (K : Nat → Prop) (cells : List Value), (∀ b, K b → base ≤ b ∧ b < W.heap.size ∧ u.ownBlock ≠ some b ∧ b ≠ lb) ∧ W.ownsRow base te size u xs.length cells ∧ ∀ j (h : j < xs.length), rel K W ((cells.drop (j * size)).take size) xs[j]
theorem OwnN.nil {α : Type} {rel : Rel α} {size : Nat} {te : TypeId} {base lb : Nat} {W : World} : OwnN rel size te base lb W (.slice none 0 0) ([] : List α) :=
 ⟨fun _ => False, [], fun b h => h.elim, World.ownsRow_nil _ _ _ _, fun j h => by simp at h⟩
theorem OwnN.keep {α : Type} {rel : Rel α} (hm : Mono rel) {size : Nat} {te : TypeId} {base lb : Nat} {W W' : World} {u : Value} {xs : List α} (h : OwnN rel size te base lb W u xs) (hb : Below W.heap.size W W') : OwnN rel size te base lb W' u xs := by
 obtain ⟨K, cells, hK, ho, hr⟩ := h
 refine ⟨K, cells, fun b h => ⟨(hK b h).1, Nat.lt_of_lt_of_le (hK b h).2.1 hb.size, (hK b h).2.2⟩, ?_, fun j hj => hm _ _ _ _ _ _ (fun _ h => h) (kept_of (fun b h => (hK b h).2.1) hb) (hr j hj)⟩
 obtain ⟨hl, ⟨rfl, hn⟩ | ⟨g, cap, cur, rfl, h1, hg, r⟩⟩ := ho
 ·exact ⟨hl, .inl ⟨rfl, hn⟩⟩
 ·exact ⟨hl, .inr ⟨g, cap, cur, rfl, h1, by rw [hb.block _ (Array.getElem?_eq_some_iff.1 hg).1]; exact hg, r⟩⟩
theorem OwnN.list {α : Type} {rel : Rel α} (hm : Mono rel) {size bytes : Nat} {te : TypeId} {base lb : Nat} {W : World} {u : Value} {xs : List α} (h : OwnN rel size te base lb W u xs) (hb : xs.length * bytes ≤ 140737488355328) : ∃ p c, u = .slice p xs.length c ∧ ListIs rel size bytes (From base W) W (.slice p xs.length c) xs := by
 obtain ⟨K, cells, hK, ho, hr⟩ := h
 have hr2 : ∀ j (h : j < xs.length), rel (From base W) W ((cells.drop (j * size)).take size) xs[j] := fun j hj => hm _ _ _ _ _ _ (fun b h => ⟨(hK b h).1, (hK b h).2.1⟩) ⟨rfl, rfl, rfl, Nat.le_refl _, fun _ _ => rfl⟩ (hr j hj)
 obtain ⟨hl, ⟨rfl, hn⟩ | ⟨g, cap, cur, rfl, hbg, hg, hnc, hcm, hcs, htake⟩⟩ := ho
 ·exact ⟨none, 0, by rw [hn], none, 0, by rw [hn], hb, fun h => by omega⟩
 ·refine ⟨_, cap, rfl, _, cap, rfl, hb, fun _ => ⟨g, 0, rfl, ⟨hbg, (Array.getElem?_eq_some_iff.1 hg).1⟩, fun j hj => ⟨_, ?_, fun i u hu => ?_, hr2 j hj⟩⟩⟩
  ·have h1 : j * size + size ≤ xs.length * size := by
    have := Nat.mul_le_mul_right size (show j + 1 ≤ xs.length by omega)
    rwa [Nat.add_mul, Nat.one_mul] at this
   rw [List.length_take, List.length_drop, hl]; omega
  ·have hi : i < size := by
    have := (List.getElem?_eq_some_iff.1 hu).1
    rw [List.length_take] at this; omega
   rw [List.getElem?_take_of_lt hi, List.getElem?_drop, ← htake] at hu
   have hlt : j * size + i < xs.length * size := by
    have := Nat.mul_le_mul_right size (show j + 1 ≤ xs.length by omega)
    rw [Nat.add_mul, Nat.one_mul] at this; omega
   rw [List.getElem?_take_of_lt hlt] at hu
   rw [Nat.zero_add]
   exact cell_of_row hg (by simpa using hu)
/-- One part more. -/
theorem OwnN.push {α : Type} {rel : Rel α} (hm : Mono rel) {size bytes : Nat} {ts te : TypeId} {i0 : TypeInfo} {z : Value} (hu : Tryz.prog.underlying ts = some (.slice te)) (hi : Tryz.prog.info? te = some i0) (hz : i0.zero = some z) (hs : i0.size = size) (hby : i0.bytes = bytes) (hzs : z.cells.size = size) (hs0 : 0 < size)
  {base lb : Nat} {X : World} {u : Value} {xs : List α} (h : OwnN rel size te base lb X u xs) (hbase : base ≤ X.heap.size) {cs : List Value} {x : α} {K2 : Nat → Prop} (hcs : cs.length = size) (hone : ∀ c ∈ cs, c.oneCell' = true) (hK2 : ∀ b, K2 b → base ≤ b ∧ b < X.heap.size ∧ u.ownBlock ≠ some b ∧ b ≠ lb) (hr : rel K2 X cs x) (hbytes : (xs.length + 1) * bytes ≤ 140737488355328) (hmax : xs.length + 1 ≤ maxLen) :
  ∃ v' X2, (Builtin.append_ #[ts, ts] ts #[u, .slice (some ⟨X.heap.size, 0, none⟩) 1 1]).run Tryz.prog (X.alloc (.cells cs.toArray te)) = .ok v' X2 ∧ OwnN rel size te base lb X2 v' (xs ++ [x]) ∧ (∀ B w0, Below B w0 X → B ≤ base → Below B w0 X2) ∧ X.heap.size < X2.heap.size ∧ ∀ b, b < X.heap.size → u.ownBlock ≠ some b → X2.heap[b]? = X.heap[b]? := by
 obtain ⟨K, cells, hK, ho, hrr⟩ := h
 obtain ⟨X1, hX1⟩ : ∃ X1, X.alloc (.cells cs.toArray te) = X1 := ⟨_, rfl⟩
 have hb1 : Below X.heap.size X X1 := by rw [← hX1]; exact (Below.refl _ _).alloc (Nat.le_refl _) _
 have hs1 : X1.heap.size = X.heap.size + 1 := by rw [← hX1]; simp
 have hg1 : X1.heap[X.heap.size]? = some (.cells cs.toArray te (0, 0)) := by rw [← hX1]; exact heap_alloc_new X _
 rw [hX1]
 have ho1 : X1.ownsRow base te size u xs.length cells := by
  obtain ⟨hl, ⟨rfl, hn⟩ | ⟨g, cap, cur, rfl, h1, hg, r⟩⟩ := ho
  ·exact ⟨hl, .inl ⟨rfl, hn⟩⟩
  ·exact ⟨hl, .inr ⟨g, cap, cur, rfl, h1, by rw [hb1.block _ (Array.getElem?_eq_some_iff.1 hg).1]; exact hg, r⟩⟩
 have hnew : ∀ j v, cs[j]? = some v → X1.cell? ((⟨X.heap.size, 0, none⟩ : Addr).add j) = some v := fun j v hv => by
  rw [addr_add, Nat.zero_add]
  exact cell_of_row hg1 (by simpa using hv)
 obtain ⟨v', X2, e, ho2, h5, _, h6⟩ := run_append_own_at (P := Tryz.prog) X1 base ts ts te i0 z size bytes hu hi hz hs hby hzs hs0 u xs.length cells ho1 ⟨X.heap.size, 0, none⟩ 1 1 cs (by rw [hcs, Nat.one_mul]) hnew hone hmax hbytes (by omega)
 have hsz := h5.size
 have hKeep : ∀ (Q : Nat → Prop), (∀ b, Q b → b < X.heap.size ∧ u.ownBlock ≠ some b) → Kept Q X X2 := fun Q hQ => by
  refine ⟨h5.os.trans hb1.os, h5.tape.trans hb1.tape, h5.output.trans hb1.output, by omega, fun b hb => ?_⟩
  rw [h5.block b (by have := (hQ b hb).1; omega) (fun e => (hQ b hb).2 e.symm)]
  exact hb1.block b (hQ b hb).1
 refine ⟨v', X2, e, ⟨fun b => K b ∨ K2 b, cells ++ cs, fun b hb => ?_, by rw [List.length_append]; exact ho2, fun j hj => ?_⟩, fun B w0 hb hB => ?_, by omega, fun b h1 h2 => (h5.block b (by omega) (fun e => h2 e.symm)).trans (hb1.block b h1)⟩
 ·have h3 : base ≤ b ∧ b < X.heap.size ∧ u.ownBlock ≠ some b ∧ b ≠ lb := hb.elim (hK b) (hK2 b)
  refine ⟨h3.1, by omega, fun e => ?_, h3.2.2.2⟩
  rcases h6 with h6 | h6
  ·rw [h6] at e; exact h3.2.2.1 e
  ·rw [h6] at e; simp only [Option.some.injEq] at e; omega
 ·by_cases hjn : j < xs.length
  ·rw [part_of ho.1 hcs hjn, List.getElem_append_left hjn]
   exact hm _ _ _ _ _ _ (fun _ h => .inl h) (hKeep K (fun b h => ⟨(hK b h).2.1, (hK b h).2.2.1⟩)) (hrr j hjn)
  ·have e2 : j = xs.length := by simp at hj; omega
   subst e2
   have hl := ho.1
   rw [List.drop_append_of_le_length (by omega), List.drop_of_length_le (by omega), List.nil_append, List.take_of_length_le (by omega), List.getElem_append_right (Nat.le_refl _)]
   simp only [Nat.sub_self, List.getElem_cons_zero]
   exact hm _ _ _ _ _ _ (fun _ h => .inr h) (hKeep K2 (fun b h => ⟨(hK2 b h).2.1, (hK2 b h).2.2.1⟩)) hr
 ·exact Below.grown (hb.trans (hb1.mono (Nat.le_trans hB hbase))) h5 (by omega) (fun j hj => by have := (ho1.lt _ hj).1; omega)
theorem OwnN.of {α : Type} {rel : Rel α} {size : Nat} {te : TypeId} {base lb : Nat} {W : World} {u : Value} {xs : List α} (h : OwnR rel size te base W u xs) (hl : W.heap.size ≤ lb) : OwnN rel size te base lb W u xs := by
 obtain ⟨K, cells, hK, ho, hr⟩ := h
 exact ⟨K, cells, fun b hb => ⟨(hK b hb).1, (hK b hb).2.1, (hK b hb).2.2, by have := (hK b hb).2.1; omega⟩, ho, hr⟩
theorem OwnN.block {α : Type} {rel : Rel α} {size : Nat} {te : TypeId} {base lb : Nat} {W : World} {u : Value} {xs : List α} (h : OwnN rel size te base lb W u xs) : ∀ g, u.ownBlock = some g → base ≤ g ∧ g < W.heap.size := fun g hg => by
 obtain ⟨_, _, _, ho, _⟩ := h
 exact ho.lt g hg
/-- What is kept of it when the box is written. -/
theorem OwnN.kept {α : Type} {rel : Rel α} (hm : Mono rel) {size : Nat} {te : TypeId} {base lb : Nat} {W W' : World} {u : Value} {xs : List α} (h : OwnN rel size te base lb W u xs) (hk : Kept (fun b => b ≠ lb) W W') (hu : u.ownBlock ≠ some lb) : OwnN rel size te base lb W' u xs := by
 obtain ⟨K, cells, hK, ho, hr⟩ := h
 refine ⟨K, cells, fun b h => ⟨(hK b h).1, Nat.lt_of_lt_of_le (hK b h).2.1 hk.size, (hK b h).2.2⟩, ?_, fun j hj => hm _ _ _ _ _ _ (fun _ h => h) (hk.less fun b h => (hK b h).2.2.2) (hr j hj)⟩
 obtain ⟨hl, ⟨rfl, hn⟩ | ⟨g, cap, cur, rfl, h1, hg, r⟩⟩ := ho
 ·exact ⟨hl, .inl ⟨rfl, hn⟩⟩
 ·exact ⟨hl, .inr ⟨g, cap, cur, rfl, h1, by rw [hk.block g (fun e => hu (by rw [e]; rfl))]; exact hg, r⟩⟩
/-- One more is put behind those that are there, and into the box. -/
theorem push_box {u : Value} {w5 : World} {zs : List (Int × Mg)} {y : Int × Mg} {cl5 : List Value} {B base lb : Nat} (hbx : w5.heap[lb]? = some (.cells #[u] 38 (0, 0))) (hJ : OwnN rAsk 48 73 base lb w5 u zs) (hub : u.ownBlock ≠ some lb) (hl5 : cl5.length = 47) (hm5 : MsgIs (From B w5) w5 cl5.toArray y.2) (h64 : I64 y.1) (hB : base ≤ B) (hlb : lb < B) (hu : ∀ g, u.ownBlock = some g → g < B) (hby : (zs.length + 1) * 648 ≤ 140737488355328) (hbs : base ≤ w5.heap.size) :
  ∃ q c X2 X3, (Builtin.append_ #[36, 36] 36 #[u, .slice (some ⟨w5.heap.size, 0, none⟩) 1 1]).run Tryz.prog (w5.alloc (.cells (.int .i64 y.1 :: cl5).toArray 73)) = .ok (.slice q (zs.length + 1) c) X2 ∧ X2.cell? ⟨lb, 0, none⟩ = some u ∧ X2.frozen? ⟨lb, 0, none⟩ = false ∧ X2.setCell ⟨lb, 0, none⟩ (.slice q (zs.length + 1) c) = X3 ∧ X3.heap[lb]? = some (.cells #[.slice q (zs.length + 1) c] 38 (0, 0)) ∧ ListIs rAsk 48 648 (From base X3) X3 (.slice q (zs.length + 1) c) (zs ++ [y]) ∧ (∀ B' w0, Below B' w0 w5 → B' ≤ base → B' ≤ lb → Below B' w0 X3) ∧ w5.heap.size < X3.heap.size ∧
   ∀ ab, ab < w5.heap.size → ab ≠ lb → u.ownBlock ≠ some ab → (w5.alloc (.cells (.int .i64 y.1 :: cl5).toArray 73)).heap[ab]? = w5.heap[ab]? ∧ X2.heap[ab]? = w5.heap[ab]? ∧ X3.heap[ab]? = w5.heap[ab]? := by
 obtain ⟨j0, hj0, hj1, hj2, hj3⟩ := info73
 have hlt : lb < w5.heap.size := (Array.getElem?_eq_some_iff.1 hbx).1
 obtain ⟨v', X2, e2, hJ2, hb2, hs2, ho2⟩ := OwnN.push mAsk Tryz.underlying36 hj0 hj1 hj2 hj3 (by show zA.size = 48; kernel_rfl) (by omega) hJ hbs (cs := .int .i64 y.1 :: cl5) (x := y) (K2 := From B w5) (by simp [hl5]) (ask_one hm5) (fun b hb => ⟨by have := hb.1; omega, hb.2, fun e => by have := hu b e; have := hb.1; omega, by have := hb.1; omega⟩) ⟨cl5, rfl, hl5, h64, hm5⟩ hby (by unfold maxLen; omega)
 obtain ⟨q, c, hq, _⟩ := hJ2.list mAsk (bytes := 648) (by simpa using hby)
 simp only [List.length_append, List.length_cons, List.length_nil, Nat.zero_add] at hq
 subst hq
 have hg2 : X2.heap[lb]? = some (.cells #[u] 38 (0, 0)) := by rw [ho2 lb hlt hub]; exact hbx
 obtain ⟨a1, a2, a3, a4, a5⟩ := setCell_any X2 lb 0 (.slice q (zs.length + 1) c)
 have hnu : (Value.slice q (zs.length + 1) c).ownBlock ≠ some lb := fun e => by
  obtain ⟨_, cells, _, ho, _⟩ := id hJ2
  obtain ⟨_, ⟨hv, _⟩ | ⟨g, cap, cur, hv, _, hg, _⟩⟩ := ho
  ·rw [hv] at e; simp [Value.ownBlock] at e
  ·rw [hv] at e
   have e' : g = lb := by simpa [Value.ownBlock] using e
   rw [e', hg2] at hg
   simp at hg
 have hk3 : Kept (fun b => b ≠ lb) X2 (X2.setCell ⟨lb, 0, none⟩ (.slice q (zs.length + 1) c)) := ⟨a2, a3, a4, by omega, fun b hb => a5 b hb⟩
 obtain ⟨q', c', hq', hl3⟩ := (hJ2.kept mAsk hk3 hnu).list mAsk (bytes := 648) (by simpa using hby)
 simp only [List.length_append, List.length_cons, List.length_nil, Nat.zero_add] at hq' hl3
 rw [← hq'] at hl3
 refine ⟨q, c, X2, _, e2, cell_of_row hg2 rfl, frozen_zero hg2 0, rfl, ?_, hl3, fun B' w0 hb h1 h2 => ?_, by omega, fun ab h1 h2 h3 => ⟨hao _ _ _ h1, ho2 ab h1 h3, (a5 ab h2).trans (ho2 ab h1 h3)⟩⟩
 ·rw [setCell_eq_setRow X2 _ 0 _ 38 (0, 0) _ hg2]; exact setRow_heap X2 _ _ _ 38 _ hg2
 ·have hB2 := hb2 B' w0 hb h1
  exact ⟨a2.trans hB2.os, a3.trans hB2.tape, a4.trans hB2.output, by have := hB2.size; omega, fun b hb' => by rw [a5 b (by omega)]; exact hB2.block b hb'⟩
end Go.Proofs.YtajomnfeicfdlaaGreatDoor
/- What Ask answers. -/
namespace Go.Proofs.YtajomnfeicfdlaaGreatDoor
open Go.Shelf Go.RowKit Go.Lib
set_option linter.unusedVariables false
set_option linter.unusedSimpArgs false
attribute [local go_sem ↓] Go.wp_at_zero Go.wp_at_succ
theorem OwnR.lower {α : Type} {rel : Rel α} {size : Nat} {te : TypeId} {base B : Nat} {W : World} {u : Value} {xs : List α} (h : OwnR rel size te base W u xs) (hB : B ≤ base) : OwnR rel size te B W u xs := by
 obtain ⟨K, cells, hK, ho, hr⟩ := h
 refine ⟨K, cells, fun b h => ⟨Nat.le_trans hB (hK b h).1, (hK b h).2⟩, ?_, hr⟩
 obtain ⟨hl, ⟨rfl, hn⟩ | ⟨g, cap, cur, rfl, h1, r⟩⟩ := ho
 ·exact ⟨hl, .inl ⟨rfl, hn⟩⟩
 ·exact ⟨hl, .inr ⟨g, cap, cur, rfl, Nat.le_trans hB h1, r⟩⟩
theorem enters28 : ∀ args w, (callFunc 28 args).run Tryz.prog w = .ok (.enter 28 args) w := enters_of Tryz.func28 (by kernel_rfl) rfl
theorem ask1_any (a : Array Value) (w : World) : Calls Tryz.prog 28 #[.agg a] w fun e w' => e = .returned (.bool false) ∧ Below w.heap.size w w' := by
 obtain ⟨W0, hW0⟩ : ∃ W0, w.alloc (.cells a 73) = W0 := ⟨_, rfl⟩
 have HB0 : Hid (Below w.heap.size w W0) := by rw [← hW0]; exact (Below.refl _ _).alloc (Nat.le_refl _) _
 go_enter Tryz.func28, Tryz.ntmps28
 go_wp2_with fail
 go_ret
 exact ⟨rfl, HB0.out⟩
/-- What is asked behind an Ask. -/
def askL (xs : List (Int × Mg)) (tn : Int) (m : Mg) : List (Int × Mg) := if refP xs tn m = 0 then xs ++ [(tn, m)] else xs
theorem ref_few {xs : List (Int × Mg)} {tn : Int} {m : Mg} (h : refP xs tn m = 0) : xs.length < 512 := by
 unfold refP at h
 by_cases h1 : chkP xs = 6
 ·rw [if_pos h1] at h; omega
 rw [if_neg h1] at h
 by_cases h2 : nodeP tn = false
 ·rw [if_pos h2] at h; omega
 rw [if_neg h2] at h
 by_cases h3 : wrE m = 11
 ·rw [if_pos h3] at h; omega
 rw [if_neg h3] at h
 by_cases h4 : anP (m.k : Int) = false
 ·rw [if_pos h4] at h; omega
 rw [if_neg h4] at h
 by_cases h5 : anyP (openP tn (wrS m)) xs = true
 ·rw [if_pos h5] at h; omega
 rw [if_neg h5] at h
 by_cases h6 : 512 ≤ xs.length
 ·rw [if_pos h6] at h; omega
 omega
set_option maxRecDepth 100000 in
set_option maxHeartbeats 8000000 in
theorem ask_any (v : Value) (tn : Int) (cl : List Value) (m : Mg) (xs : List (Int × Mg)) (K : Nat → Prop) (w : World) (h : ListIs rAsk 48 648 K w v xs) (hm : MsgIs K w cl.toArray m) (h64 : I64 tn) (hK : ∀ b, K b → b < w.heap.size) (hT : Lib.Utf8Tabs 0 1 w) (h2 : 1 < w.heap.size) :
  Calls Tryz.prog 17 #[.agg #[v], .int .i64 tn, .agg cl.toArray] w fun e w' => ∃ q c, e = .returned (.tuple #[.agg #[.slice q (askL xs tn m).length c], .int .i64 (refP xs tn m)]) ∧ ListIs rAsk 48 648 (From w.heap.size w') w' (.slice q (askL xs tn m).length c) (askL xs tn m) ∧ Below w.heap.size w w' := by
 have hln : cl.length = 47 := by simpa using hm.size
 obtain ⟨W0, hW0, hb0, hs0, g0, g1, g2⟩ := three_boxes w #[v] cl.toArray #[.slice none 0 0] 38 63 38
 have HV : Hid (∀ V, Below W0.heap.size W0 V → V.cell? ⟨w.heap.size, 0, none⟩ = some v ∧ V.rangeAt (w.heap.size + 1) 0 cl ∧ V.heap[w.heap.size + 1 + 1]? = some (.cells #[.slice none 0 0] 38 (0, 0)) ∧ Below w.heap.size w V) := fun V hb => ⟨(hb.cell (p := ⟨w.heap.size, 0, none⟩) (by show w.heap.size < _; omega)).trans (cell_of_row g0 rfl), range_box g1 hb, by rw [hb.block _ (by omega)]; exact g2, hb0.trans (hb.mono hb0.size)⟩
 have HTB : Hid (∀ V, Below w.heap.size w V → Lib.Utf8Tabs 0 1 V ∧ 1 < V.heap.size ∧ (∀ b, K b → b < V.heap.size) ∧ ListIs rAsk 48 648 K V v xs ∧ MsgIs K V cl.toArray m) := fun V hb => ⟨Utf8Tabs.later hT h2 hb, Nat.lt_of_lt_of_le h2 hb.size, fun b hk => Nat.lt_of_lt_of_le (hK b hk) hb.size, ListIs.later mAsk h hK hb, hm.keep (fun _ h => h) (kept_of hK hb)⟩
 have I63 : Hid ((Tryz.prog.info? 63).map (·.size) = some cl.length) := by show _ = _; rw [hln]; exact size49
 have hfx : xs.filter (fun x => !(fun _ : Int × Mg => false) x) = xs := by simp
 have CW : Hid (Calls Tryz.prog 27 #[.agg #[v], .func (.func 28) #[] #[]] W0 fun e w' => ∃ q c, e = .returned (.agg #[.slice q xs.length c]) ∧ OwnR rAsk 48 73 (W0.heap.size + 3) w' (.slice q xs.length c) xs ∧ Below W0.heap.size W0 w') := by
  obtain ⟨t1, t2, t3, t4, t5⟩ := HTB.out W0 hb0
  have := without_any #[] (fun _ => false) 28 v xs K W0 t4 t3 enters28 (fun W hb x hx cl hl hm => by rw [Array.append_empty]; exact ask1_any _ W)
  rw [hfx] at this
  exact this
 obtain ⟨q0, c0, rfl, _, _⟩ := id h
 have r0 := cell_of_row (k := 0) g0 rfl
 have HS0 : Hid (W0.heap.size = w.heap.size + 3) := hs0
 have H64 : Hid (I64 tn) := h64
 obtain ⟨k, hk⟩ : ∃ k, refP xs tn m = k := ⟨_, rfl⟩
 obtain ⟨ys, hys⟩ : ∃ ys, askL xs tn m = ys := ⟨_, rfl⟩
 have HKK : Hid (refP xs tn m = k) := hk
 have HYS : Hid ((if k = 0 then xs ++ [(tn, m)] else xs) = ys) := by show _ = _; rw [← hk, ← hys]; rfl
 rw [hk, hys]
 clear h hm h64 hK hT h2 hb0 g0 g1 g2 hln hfx hk hys hs0
 go_enter Tryz.func17, Tryz.ntmps17
 go_wp2_with fail
 refine CW.out.mono ?_
 rintro e w1 ⟨q, c, rfl, ho1, hb1⟩
 obtain ⟨w2, hw2⟩ : ∃ w2, w1.alloc (.cells #[.slice q xs.length c] 38) = w2 := ⟨_, rfl⟩
 have hg2 : w2.heap[w1.heap.size]? = some (.cells #[.slice q xs.length c] 38 (0, 0)) := by rw [← hw2]; exact heap_alloc_new w1 _
 have hb12 : Below w1.heap.size w1 w2 := by rw [← hw2]; exact (Below.refl _ _).alloc (Nat.le_refl _) _
 have hb2 : Below W0.heap.size W0 w2 := hb1.trans (hb12.mono hb1.size)
 have HJ2 : Hid (OwnN rAsk 48 73 W0.heap.size w1.heap.size w2 (.slice q xs.length c) xs) := (OwnN.of (ho1.lower (Nat.le_add_right _ _)) (Nat.le_refl _)).keep mAsk hb12
 have HNB : Hid (∀ g, (Value.slice q xs.length c).ownBlock = some g → g < w1.heap.size) := fun g hg => (ho1.block g hg).2
 have HLL : Hid (W0.heap.size ≤ w1.heap.size ∧ w1.heap.size < w2.heap.size) := ⟨hb1.size, (Array.getElem?_eq_some_iff.1 hg2).1⟩
 have HG2 : Hid (w2.heap[w1.heap.size]? = some (.cells #[.slice q xs.length c] 38 (0, 0))) := hg2
 have HB2 : Hid (Below W0.heap.size W0 w2) := hb2
 obtain ⟨x1, x2, x3, x4⟩ := HV.out w2 hb2
 have HR2 : Hid (w2.rangeAt (w.heap.size + 1) 0 cl) := x2
 have CR : Hid (Calls Tryz.prog 29 #[.agg #[.slice q0 xs.length c0], .int .i64 tn, .agg cl.toArray] w2 fun e w' => e = .returned (.int .i64 k) ∧ Below w2.heap.size w2 w') := by
  obtain ⟨t1, t2, t3, t4, t5⟩ := HTB.out w2 x4
  rw [← HKK.out]
  exact refuse_any _ tn cl m xs K w2 t4 t5 t3 t1 t2
 clear CW ho1 hb1 hg2 hb12 hb2 x2 x3 x4 r0
 go_wp2_with (refine wpList_load_mid rfl 63 _ rfl (w.heap.size + 1) 0 rfl cl _ HR2.out Tryz.underlying63 rfl I63.out ?_)
 refine CR.out.mono ?_
 rintro e w3 ⟨rfl, hb3⟩
 have HB3 : Hid (Below W0.heap.size W0 w3) := HB2.out.trans (hb3.mono HB2.out.size)
 have HG3 : Hid (w3.heap[w1.heap.size]? = some (.cells #[.slice q xs.length c] 38 (0, 0))) := by show _ = _; rw [hb3.block _ HLL.out.2]; exact HG2.out
 have HJ3 : Hid (OwnN rAsk 48 73 W0.heap.size w1.heap.size w3 (.slice q xs.length c) xs) := HJ2.out.keep mAsk hb3
 have HL3 : Hid (w1.heap.size < w3.heap.size) := Nat.lt_of_lt_of_le HLL.out.2 hb3.size
 clear hb3 CR HB2 HG2 HJ2 HR2 x1 hw2
 by_cases hk0 : k = 0
 ·subst hk0
  obtain rfl : xs ++ [(tn, m)] = ys := by rw [← HYS.out, if_pos rfl]
  have HFW : Hid (xs.length < 512) := ref_few HKK.out
  clear HYS
  go_wp2_with fail
  refine wp_region_held_drew (S := fun W => W.rangeAt (w.heap.size + 1) 0 cl) (by kernel_rfl) (by show (w3.drew).rangeAt _ _ _; rw [World.rangeAt_drew]; exact (HV.out w3 HB3.out).2.1) (fun hHeld => ?_)
  refine wpAnyH_take (i := 0) (v := .pointer (some ⟨w1.heap.size, 0, none⟩)) rfl (by kernel_rfl) (by kernel_rfl) (by kernel_rfl) (fun _ _ _ h => h) (.inl ⟨by rfl, fun W hW => by go_simp⟩) hHeld ?_
  simp only [Act.put, List.getElem_toArray, List.getElem_cons_zero, List.getElem_cons_succ, List.setIfInBounds_toArray, List.set_cons_zero, List.set_cons_succ]
  refine wpAnyH_take (i := 2) (v := .int .i64 tn) rfl (by kernel_rfl) (by kernel_rfl) (by kernel_rfl) (fun _ _ _ h => h) (.inl ⟨by rfl, fun W hW => by go_simp⟩) hHeld ?_
  simp only [Act.put, List.getElem_toArray, List.getElem_cons_zero, List.getElem_cons_succ, List.setIfInBounds_toArray, List.set_cons_zero, List.set_cons_succ]
  refine wpAnyH_take (i := 3) (v := .agg cl.toArray) rfl (by kernel_rfl) (by kernel_rfl) (by kernel_rfl) (fun _ _ _ h => h) (yieldsIf_load_mid (by rfl) 63 (.tmp 5) rfl (w.heap.size + 1) 0 rfl cl _ (fun W hW => hW) Tryz.underlying63 rfl I63.out) hHeld ?_
  simp only [Act.put, List.getElem_toArray, List.getElem_cons_zero, List.getElem_cons_succ, List.setIfInBounds_toArray, List.set_cons_zero, List.set_cons_succ]
  obtain ⟨w4, hw4⟩ : ∃ w4, w3.drew = w4 := ⟨_, rfl⟩
  rw [hw4] at hHeld ⊢
  have HB4 : Hid (Below W0.heap.size W0 w4) := by rw [← hw4]; exact HB3.out.drew
  have HG4 : Hid (w4.heap[w1.heap.size]? = some (.cells #[.slice q xs.length c] 38 (0, 0))) := by rw [← hw4]; exact HG3.out
  have HJ4 : Hid (OwnN rAsk 48 73 W0.heap.size w1.heap.size w4 (.slice q xs.length c) xs) := by rw [← hw4]; exact HJ3.out.keep mAsk (Below.refl _ _).drew
  have HL4 : Hid (w1.heap.size < w4.heap.size) := by rw [← hw4]; exact HL3.out
  have CF : Hid (Calls Tryz.prog 30 #[.agg cl.toArray] w4 fun e w' => ∃ cl' : List Value, e = .returned (.agg cl'.toArray) ∧ cl'.length = 47 ∧ MsgIs (From w4.heap.size w') w' cl'.toArray m ∧ Below w4.heap.size w4 w') := by
   obtain ⟨t1, t2, t3, t4, t5⟩ := HTB.out w4 (HV.out w4 HB4.out).2.2.2
   exact fresh_any cl m K w4 t5 t3
  have g4 := cell_of_row (k := 0) HG4.out rfl
  clear hw4 HB3 HG3 HJ3 HL3
  refine wpAnyH_ready (rs := [1, 4]) (by kernel_rfl) (by simp) ?_
  refine AllReadyH.cons rfl (fun K' hK => ?_) ?_
  ·rw [if_pos (by rfl)]
   go_simp
   refine hK.out _ _ hHeld (fun hHeld => ?_)
   clear hK K'
   refine wpAnyH_ready (rs := [4]) (by kernel_rfl) (by simp) ?_
   refine AllReadyH.cons rfl (fun K' hK => ?_) AllReadyH.nil
   rw [if_pos (by rfl)]
   go_simp
   go_at_call 30
   refine CF.out.mono ?_
   rintro e w5 ⟨cl5, rfl, hl5, hm5, hb5⟩
   have HJ5 := HJ4.out.keep mAsk hb5
   have hg5 : w5.heap[w1.heap.size]? = some (.cells #[.slice q xs.length c] 38 (0, 0)) := (hb5.block _ HL4.out).trans HG4.out
   have hnb := HNB.out
   have hll := HLL.out.1
   have hl4 := HL4.out
   have hs0 := HS0.out
   have hfw := HFW.out
   have hsz := hb5.size
   have hB5 : Below W0.heap.size W0 w5 := HB4.out.trans (hb5.mono HB4.out.size)
   have hub : (Value.slice q xs.length c).ownBlock ≠ some w1.heap.size := fun e => by have := hnb _ e; omega
   obtain ⟨q5, c5, X2, X3, e5, g7, f7, e7, hx7, hl7, hb7, hs7, ho7⟩ := push_box (y := (tn, m)) hg5 HJ5 hub hl5 hm5 H64.out (by have := HB4.out.size; omega) hl4 (fun g hg => by have := hnb g hg; omega) (by omega) (by omega)
   obtain ⟨y1, y2, y3, y4⟩ := HV.out w5 hB5
   have hno : ∀ g, (Value.slice q xs.length c).ownBlock = some g → W0.heap.size ≤ g := fun g hg => (HJ5.block g hg).1
   obtain ⟨o1, o2, o3⟩ := ho7 (w.heap.size + 1) (by omega) (by omega) (fun e => by have := hno _ e; omega)
   obtain ⟨p1, p2, p3⟩ := ho7 (w.heap.size + 1 + 1) (by omega) (by omega) (fun e => by have := hno _ e; omega)
   have hr6 := range_of_block y2 o1
   have hr7 := range_of_block y2 o2
   have hr8 := range_of_block y2 o3
   have g5 : w5.cell? ⟨w1.heap.size, 0, none⟩ = some (.slice q xs.length c) := cell_of_row (k := 0) hg5 rfl
   have g6 : (w5.alloc (.cells (Value.int .i64 tn :: cl5).toArray 73)).cell? ⟨w1.heap.size, 0, none⟩ = some (.slice q xs.length c) := (World.cell?_of_block (hao w5 _ w1.heap.size (by omega))).trans g5
   have hbd : ∀ W, (Instr.build 73 #[(0, .int .i64 tn), (1, .agg cl5.toArray)]).run Tryz.prog W = .ok (.agg (.int .i64 tn :: cl5).toArray) W := fun W => run_build W 73 _ _ (ask_built tn cl5 hl5)
   have HE := hid (And.intro hx7 (And.intro hl7 (And.intro (hb7 w.heap.size w y4 (by omega) (by omega)) (And.intro (p3.trans y3) hs7))))
   have hr5 := y2
   obtain ⟨j0, hj0, hj1, hj2, hj3⟩ := info73
   clear hm5 hb5 hx7 hl7 hb7 hs7 ho7 HJ5 hg5 hnb hll hl4 hs0 hfw hsz hB5 hub y1 y2 y3 y4 hno o1 o2 o3 p1 p2 p3
   refine hK.out _ _ hr5 (fun hHeld => ?_)
   clear hK K'
   refine wpAnyH_ready (rs := [5]) (by kernel_rfl) (by simp) ?_
   refine AllReadyH.cons rfl (fun K' hK => ?_) AllReadyH.nil
   rw [if_pos (by rfl)]
   refine wp_build_run 73 0 1 (.tmp 20) (.tmp 22) rfl (.int .i64 tn) (.agg cl5.toArray) rfl rfl _ (hbd _) ?_
   simp only [Act.put, List.getElem_toArray, List.getElem_cons_zero, List.getElem_cons_succ, List.setIfInBounds_toArray, List.set_cons_zero, List.set_cons_succ]
   refine hK.out _ _ hHeld (fun hHeld => ?_)
   clear hK K'
   refine wpAnyH_ready (rs := [6]) (by kernel_rfl) (by simp) ?_
   refine AllReadyH.cons rfl (fun K' hK => ?_) AllReadyH.nil
   rw [if_pos (by rfl)]
   refine wp_buildSlice 36 73 1 #[(0, .tmp 23)] rfl (Value.int .i64 tn :: cl5).toArray j0 (.agg zA) Tryz.underlying36 hj0 hj1 (by rw [hj2]; decide) (by rw [hj2]; decide) (by simp only [List.map_toArray, List.map_cons, List.map_nil]; exact ask_fill (Value.int .i64 tn :: cl5).toArray (by simp [hl5]) j0 hj2) ?_
   simp only [Act.put, List.getElem_toArray, List.getElem_cons_zero, List.getElem_cons_succ, List.setIfInBounds_toArray, List.set_cons_zero, List.set_cons_succ]
   refine hK.out _ _ hr6 (fun hHeld => ?_)
   clear hK K'
   refine wpAnyH_ready (rs := [7]) (by kernel_rfl) (by simp) ?_
   refine AllReadyH.cons rfl (fun K' hK => ?_) AllReadyH.nil
   rw [if_pos (by rfl)]
   refine wp_append_run (.tmp 19) (.tmp 24) 36 36 rfl (.slice q xs.length c) (.slice (some ⟨w5.heap.size, 0, none⟩) 1 1) rfl rfl _ _ e5 ?_
   simp only [Act.put, List.getElem_toArray, List.getElem_cons_zero, List.getElem_cons_succ, List.setIfInBounds_toArray, List.set_cons_zero, List.set_cons_succ]
   refine hK.out _ _ hr7 (fun hHeld => ?_)
   clear hK K'
   refine wpAnyH_ready (rs := [8]) (by kernel_rfl) (by simp) ?_
   refine AllReadyH.cons rfl (fun K' hK => ?_) AllReadyH.nil
   rw [if_pos (by rfl)]
   go_simp
   refine hK.out _ _ hr7 (fun hHeld => ?_)
   clear hK K'
   refine wpAnyH_ready (rs := [9]) (by kernel_rfl) (by simp) ?_
   refine AllReadyH.cons rfl (fun K' hK => ?_) AllReadyH.nil
   rw [if_pos (by rfl)]
   go_simp
   refine hK.out _ _ hr8 (fun hHeld => ?_)
   clear hK K'
   refine wpAnyH_done (by kernel_rfl) ?_ _
   clear hHeld hr5 hr6 hr7 hr8 g5 g6 g7 f7 e7 e5 hbd g4 hj0 hj1 hj2 hj3
   obtain ⟨hx7, hl7, hb7, hy3, hs7⟩ := HE.out
   have e3 := cell_of_row (k := 0) hx7 rfl
   have f1 := frozen_zero hy3 0
   have g3 := cell_of_row (k := 0) hy3 rfl
   have hs0 := HS0.out
   obtain ⟨a1, a2, a3, a4, a5⟩ := setCell_any X3 (w.heap.size + 1 + 1) 0 (.slice q5 (xs.length + 1) c5)
   have hgY : (X3.setCell ⟨w.heap.size + 1 + 1, 0, none⟩ (.slice q5 (xs.length + 1) c5)).heap[w.heap.size + 1 + 1]? = some (.cells #[.slice q5 (xs.length + 1) c5] 38 (0, 0)) := by rw [setCell_eq_setRow X3 _ 0 _ 38 (0, 0) _ hy3]; exact setRow_heap X3 _ _ _ 38 _ hy3
   have hlY : ListIs rAsk 48 648 (From w.heap.size (X3.setCell ⟨w.heap.size + 1 + 1, 0, none⟩ (.slice q5 (xs.length + 1) c5))) (X3.setCell ⟨w.heap.size + 1 + 1, 0, none⟩ (.slice q5 (xs.length + 1) c5)) (.slice q5 (xs.length + 1) c5) (xs ++ [(tn, m)]) := hl7.mono mAsk (fun b hb => ⟨by have := hb.1; omega, by rw [a1]; exact hb.2⟩) ⟨a2, a3, a4, by omega, fun b hb => a5 b (by have := hb.1; omega)⟩
   have hbY : Below w.heap.size w (X3.setCell ⟨w.heap.size + 1 + 1, 0, none⟩ (.slice q5 (xs.length + 1) c5)) := ⟨a2.trans hb7.os, a3.trans hb7.tape, a4.trans hb7.output, by have := hb7.size; omega, fun b hb => by rw [a5 b (by omega)]; exact hb7.block b hb⟩
   obtain ⟨Y, hY⟩ : ∃ Y, X3.setCell ⟨w.heap.size + 1 + 1, 0, none⟩ (.slice q5 (xs.length + 1) c5) = Y := ⟨_, rfl⟩
   rw [hY] at hgY hlY hbY
   have d0 := cell_of_row (k := 0) hgY rfl
   have HF := hid (And.intro hlY hbY)
   have hlen : (xs ++ [(tn, m)]).length = xs.length + 1 := by simp
   have HLE : Hid ((xs ++ [(tn, m)]).length = xs.length + 1) := hlen
   clear a1 a2 a3 a4 a5 hgY hlY hbY hx7 hl7 hb7 hy3 hs7 hs0 hlen
   go_wp2_with fail
   refine bodyPost_ret (v := .tuple #[.agg #[.slice q5 (xs.length + 1) c5], .int .i64 0]) (by simp [results, Tryz.results17, go_sem, d0]) rfl ?_
   exact ⟨q5, c5, by rw [HLE.out], by rw [HLE.out]; exact HF.out.1, HF.out.2⟩
  refine AllReadyH.cons rfl (fun K' hK => ?_) AllReadyH.nil
  rw [if_pos (by rfl)]
  go_simp
  go_at_call 30
  refine CF.out.mono ?_
  rintro e w5 ⟨cl5, rfl, hl5, hm5, hb5⟩
  have HJ5 := HJ4.out.keep mAsk hb5
  have hg5 : w5.heap[w1.heap.size]? = some (.cells #[.slice q xs.length c] 38 (0, 0)) := (hb5.block _ HL4.out).trans HG4.out
  have hnb := HNB.out
  have hll := HLL.out.1
  have hl4 := HL4.out
  have hs0 := HS0.out
  have hfw := HFW.out
  have hsz := hb5.size
  have hB5 : Below W0.heap.size W0 w5 := HB4.out.trans (hb5.mono HB4.out.size)
  have hub : (Value.slice q xs.length c).ownBlock ≠ some w1.heap.size := fun e => by have := hnb _ e; omega
  obtain ⟨q5, c5, X2, X3, e5, g7, f7, e7, hx7, hl7, hb7, hs7, ho7⟩ := push_box (y := (tn, m)) hg5 HJ5 hub hl5 hm5 H64.out (by have := HB4.out.size; omega) hl4 (fun g hg => by have := hnb g hg; omega) (by omega) (by omega)
  obtain ⟨y1, y2, y3, y4⟩ := HV.out w5 hB5
  have hno : ∀ g, (Value.slice q xs.length c).ownBlock = some g → W0.heap.size ≤ g := fun g hg => (HJ5.block g hg).1
  obtain ⟨o1, o2, o3⟩ := ho7 (w.heap.size + 1) (by omega) (by omega) (fun e => by have := hno _ e; omega)
  obtain ⟨p1, p2, p3⟩ := ho7 (w.heap.size + 1 + 1) (by omega) (by omega) (fun e => by have := hno _ e; omega)
  have hr6 := range_of_block y2 o1
  have hr7 := range_of_block y2 o2
  have hr8 := range_of_block y2 o3
  have g5 : w5.cell? ⟨w1.heap.size, 0, none⟩ = some (.slice q xs.length c) := cell_of_row (k := 0) hg5 rfl
  have g6 : (w5.alloc (.cells (Value.int .i64 tn :: cl5).toArray 73)).cell? ⟨w1.heap.size, 0, none⟩ = some (.slice q xs.length c) := (World.cell?_of_block (hao w5 _ w1.heap.size (by omega))).trans g5
  have hbd : ∀ W, (Instr.build 73 #[(0, .int .i64 tn), (1, .agg cl5.toArray)]).run Tryz.prog W = .ok (.agg (.int .i64 tn :: cl5).toArray) W := fun W => run_build W 73 _ _ (ask_built tn cl5 hl5)
  have HE := hid (And.intro hx7 (And.intro hl7 (And.intro (hb7 w.heap.size w y4 (by omega) (by omega)) (And.intro (p3.trans y3) hs7))))
  have hr5 := y2
  obtain ⟨j0, hj0, hj1, hj2, hj3⟩ := info73
  clear hm5 hb5 hx7 hl7 hb7 hs7 ho7 HJ5 hg5 hnb hll hl4 hs0 hfw hsz hB5 hub y1 y2 y3 y4 hno o1 o2 o3 p1 p2 p3
  refine hK.out _ _ hr5 (fun hHeld => ?_)
  clear hK K'
  refine wpAnyH_ready (rs := [1, 5]) (by kernel_rfl) (by simp) ?_
  refine AllReadyH.cons rfl (fun K' hK => ?_) ?_
  ·rw [if_pos (by rfl)]
   go_simp
   refine hK.out _ _ hHeld (fun hHeld => ?_)
   clear hK K'
   refine wpAnyH_ready (rs := [5]) (by kernel_rfl) (by simp) ?_
   refine AllReadyH.cons rfl (fun K' hK => ?_) AllReadyH.nil
   rw [if_pos (by rfl)]
   refine wp_build_run 73 0 1 (.tmp 20) (.tmp 22) rfl (.int .i64 tn) (.agg cl5.toArray) rfl rfl _ (hbd _) ?_
   simp only [Act.put, List.getElem_toArray, List.getElem_cons_zero, List.getElem_cons_succ, List.setIfInBounds_toArray, List.set_cons_zero, List.set_cons_succ]
   refine hK.out _ _ hHeld (fun hHeld => ?_)
   clear hK K'
   refine wpAnyH_ready (rs := [6]) (by kernel_rfl) (by simp) ?_
   refine AllReadyH.cons rfl (fun K' hK => ?_) AllReadyH.nil
   rw [if_pos (by rfl)]
   refine wp_buildSlice 36 73 1 #[(0, .tmp 23)] rfl (Value.int .i64 tn :: cl5).toArray j0 (.agg zA) Tryz.underlying36 hj0 hj1 (by rw [hj2]; decide) (by rw [hj2]; decide) (by simp only [List.map_toArray, List.map_cons, List.map_nil]; exact ask_fill (Value.int .i64 tn :: cl5).toArray (by simp [hl5]) j0 hj2) ?_
   simp only [Act.put, List.getElem_toArray, List.getElem_cons_zero, List.getElem_cons_succ, List.setIfInBounds_toArray, List.set_cons_zero, List.set_cons_succ]
   refine hK.out _ _ hr6 (fun hHeld => ?_)
   clear hK K'
   refine wpAnyH_ready (rs := [7]) (by kernel_rfl) (by simp) ?_
   refine AllReadyH.cons rfl (fun K' hK => ?_) AllReadyH.nil
   rw [if_pos (by rfl)]
   refine wp_append_run (.tmp 19) (.tmp 24) 36 36 rfl (.slice q xs.length c) (.slice (some ⟨w5.heap.size, 0, none⟩) 1 1) rfl rfl _ _ e5 ?_
   simp only [Act.put, List.getElem_toArray, List.getElem_cons_zero, List.getElem_cons_succ, List.setIfInBounds_toArray, List.set_cons_zero, List.set_cons_succ]
   refine hK.out _ _ hr7 (fun hHeld => ?_)
   clear hK K'
   refine wpAnyH_ready (rs := [8]) (by kernel_rfl) (by simp) ?_
   refine AllReadyH.cons rfl (fun K' hK => ?_) AllReadyH.nil
   rw [if_pos (by rfl)]
   go_simp
   refine hK.out _ _ hr7 (fun hHeld => ?_)
   clear hK K'
   refine wpAnyH_ready (rs := [9]) (by kernel_rfl) (by simp) ?_
   refine AllReadyH.cons rfl (fun K' hK => ?_) AllReadyH.nil
   rw [if_pos (by rfl)]
   go_simp
   refine hK.out _ _ hr8 (fun hHeld => ?_)
   clear hK K'
   refine wpAnyH_done (by kernel_rfl) ?_ _
   clear hHeld hr5 hr6 hr7 hr8 g5 g6 g7 f7 e7 e5 hbd g4 hj0 hj1 hj2 hj3
   obtain ⟨hx7, hl7, hb7, hy3, hs7⟩ := HE.out
   have e3 := cell_of_row (k := 0) hx7 rfl
   have f1 := frozen_zero hy3 0
   have g3 := cell_of_row (k := 0) hy3 rfl
   have hs0 := HS0.out
   obtain ⟨a1, a2, a3, a4, a5⟩ := setCell_any X3 (w.heap.size + 1 + 1) 0 (.slice q5 (xs.length + 1) c5)
   have hgY : (X3.setCell ⟨w.heap.size + 1 + 1, 0, none⟩ (.slice q5 (xs.length + 1) c5)).heap[w.heap.size + 1 + 1]? = some (.cells #[.slice q5 (xs.length + 1) c5] 38 (0, 0)) := by rw [setCell_eq_setRow X3 _ 0 _ 38 (0, 0) _ hy3]; exact setRow_heap X3 _ _ _ 38 _ hy3
   have hlY : ListIs rAsk 48 648 (From w.heap.size (X3.setCell ⟨w.heap.size + 1 + 1, 0, none⟩ (.slice q5 (xs.length + 1) c5))) (X3.setCell ⟨w.heap.size + 1 + 1, 0, none⟩ (.slice q5 (xs.length + 1) c5)) (.slice q5 (xs.length + 1) c5) (xs ++ [(tn, m)]) := hl7.mono mAsk (fun b hb => ⟨by have := hb.1; omega, by rw [a1]; exact hb.2⟩) ⟨a2, a3, a4, by omega, fun b hb => a5 b (by have := hb.1; omega)⟩
   have hbY : Below w.heap.size w (X3.setCell ⟨w.heap.size + 1 + 1, 0, none⟩ (.slice q5 (xs.length + 1) c5)) := ⟨a2.trans hb7.os, a3.trans hb7.tape, a4.trans hb7.output, by have := hb7.size; omega, fun b hb => by rw [a5 b (by omega)]; exact hb7.block b hb⟩
   obtain ⟨Y, hY⟩ : ∃ Y, X3.setCell ⟨w.heap.size + 1 + 1, 0, none⟩ (.slice q5 (xs.length + 1) c5) = Y := ⟨_, rfl⟩
   rw [hY] at hgY hlY hbY
   have d0 := cell_of_row (k := 0) hgY rfl
   have HF := hid (And.intro hlY hbY)
   have hlen : (xs ++ [(tn, m)]).length = xs.length + 1 := by simp
   have HLE : Hid ((xs ++ [(tn, m)]).length = xs.length + 1) := hlen
   clear a1 a2 a3 a4 a5 hgY hlY hbY hx7 hl7 hb7 hy3 hs7 hs0 hlen
   go_wp2_with fail
   refine bodyPost_ret (v := .tuple #[.agg #[.slice q5 (xs.length + 1) c5], .int .i64 0]) (by simp [results, Tryz.results17, go_sem, d0]) rfl ?_
   exact ⟨q5, c5, by rw [HLE.out], by rw [HLE.out]; exact HF.out.1, HF.out.2⟩
  refine AllReadyH.cons rfl (fun K' hK => ?_) AllReadyH.nil
  rw [if_pos (by rfl)]
  refine wp_build_run 73 0 1 (.tmp 20) (.tmp 22) rfl (.int .i64 tn) (.agg cl5.toArray) rfl rfl _ (hbd _) ?_
  simp only [Act.put, List.getElem_toArray, List.getElem_cons_zero, List.getElem_cons_succ, List.setIfInBounds_toArray, List.set_cons_zero, List.set_cons_succ]
  refine hK.out _ _ hHeld (fun hHeld => ?_)
  clear hK K'
  refine wpAnyH_ready (rs := [1, 6]) (by kernel_rfl) (by simp) ?_
  refine AllReadyH.cons rfl (fun K' hK => ?_) ?_
  ·rw [if_pos (by rfl)]
   go_simp
   refine hK.out _ _ hHeld (fun hHeld => ?_)
   clear hK K'
   refine wpAnyH_ready (rs := [6]) (by kernel_rfl) (by simp) ?_
   refine AllReadyH.cons rfl (fun K' hK => ?_) AllReadyH.nil
   rw [if_pos (by rfl)]
   refine wp_buildSlice 36 73 1 #[(0, .tmp 23)] rfl (Value.int .i64 tn :: cl5).toArray j0 (.agg zA) Tryz.underlying36 hj0 hj1 (by rw [hj2]; decide) (by rw [hj2]; decide) (by simp only [List.map_toArray, List.map_cons, List.map_nil]; exact ask_fill (Value.int .i64 tn :: cl5).toArray (by simp [hl5]) j0 hj2) ?_
   simp only [Act.put, List.getElem_toArray, List.getElem_cons_zero, List.getElem_cons_succ, List.setIfInBounds_toArray, List.set_cons_zero, List.set_cons_succ]
   refine hK.out _ _ hr6 (fun hHeld => ?_)
   clear hK K'
   refine wpAnyH_ready (rs := [7]) (by kernel_rfl) (by simp) ?_
   refine AllReadyH.cons rfl (fun K' hK => ?_) AllReadyH.nil
   rw [if_pos (by rfl)]
   refine wp_append_run (.tmp 19) (.tmp 24) 36 36 rfl (.slice q xs.length c) (.slice (some ⟨w5.heap.size, 0, none⟩) 1 1) rfl rfl _ _ e5 ?_
   simp only [Act.put, List.getElem_toArray, List.getElem_cons_zero, List.getElem_cons_succ, List.setIfInBounds_toArray, List.set_cons_zero, List.set_cons_succ]
   refine hK.out _ _ hr7 (fun hHeld => ?_)
   clear hK K'
   refine wpAnyH_ready (rs := [8]) (by kernel_rfl) (by simp) ?_
   refine AllReadyH.cons rfl (fun K' hK => ?_) AllReadyH.nil
   rw [if_pos (by rfl)]
   go_simp
   refine hK.out _ _ hr7 (fun hHeld => ?_)
   clear hK K'
   refine wpAnyH_ready (rs := [9]) (by kernel_rfl) (by simp) ?_
   refine AllReadyH.cons rfl (fun K' hK => ?_) AllReadyH.nil
   rw [if_pos (by rfl)]
   go_simp
   refine hK.out _ _ hr8 (fun hHeld => ?_)
   clear hK K'
   refine wpAnyH_done (by kernel_rfl) ?_ _
   clear hHeld hr5 hr6 hr7 hr8 g5 g6 g7 f7 e7 e5 hbd g4 hj0 hj1 hj2 hj3
   obtain ⟨hx7, hl7, hb7, hy3, hs7⟩ := HE.out
   have e3 := cell_of_row (k := 0) hx7 rfl
   have f1 := frozen_zero hy3 0
   have g3 := cell_of_row (k := 0) hy3 rfl
   have hs0 := HS0.out
   obtain ⟨a1, a2, a3, a4, a5⟩ := setCell_any X3 (w.heap.size + 1 + 1) 0 (.slice q5 (xs.length + 1) c5)
   have hgY : (X3.setCell ⟨w.heap.size + 1 + 1, 0, none⟩ (.slice q5 (xs.length + 1) c5)).heap[w.heap.size + 1 + 1]? = some (.cells #[.slice q5 (xs.length + 1) c5] 38 (0, 0)) := by rw [setCell_eq_setRow X3 _ 0 _ 38 (0, 0) _ hy3]; exact setRow_heap X3 _ _ _ 38 _ hy3
   have hlY : ListIs rAsk 48 648 (From w.heap.size (X3.setCell ⟨w.heap.size + 1 + 1, 0, none⟩ (.slice q5 (xs.length + 1) c5))) (X3.setCell ⟨w.heap.size + 1 + 1, 0, none⟩ (.slice q5 (xs.length + 1) c5)) (.slice q5 (xs.length + 1) c5) (xs ++ [(tn, m)]) := hl7.mono mAsk (fun b hb => ⟨by have := hb.1; omega, by rw [a1]; exact hb.2⟩) ⟨a2, a3, a4, by omega, fun b hb => a5 b (by have := hb.1; omega)⟩
   have hbY : Below w.heap.size w (X3.setCell ⟨w.heap.size + 1 + 1, 0, none⟩ (.slice q5 (xs.length + 1) c5)) := ⟨a2.trans hb7.os, a3.trans hb7.tape, a4.trans hb7.output, by have := hb7.size; omega, fun b hb => by rw [a5 b (by omega)]; exact hb7.block b hb⟩
   obtain ⟨Y, hY⟩ : ∃ Y, X3.setCell ⟨w.heap.size + 1 + 1, 0, none⟩ (.slice q5 (xs.length + 1) c5) = Y := ⟨_, rfl⟩
   rw [hY] at hgY hlY hbY
   have d0 := cell_of_row (k := 0) hgY rfl
   have HF := hid (And.intro hlY hbY)
   have hlen : (xs ++ [(tn, m)]).length = xs.length + 1 := by simp
   have HLE : Hid ((xs ++ [(tn, m)]).length = xs.length + 1) := hlen
   clear a1 a2 a3 a4 a5 hgY hlY hbY hx7 hl7 hb7 hy3 hs7 hs0 hlen
   go_wp2_with fail
   refine bodyPost_ret (v := .tuple #[.agg #[.slice q5 (xs.length + 1) c5], .int .i64 0]) (by simp [results, Tryz.results17, go_sem, d0]) rfl ?_
   exact ⟨q5, c5, by rw [HLE.out], by rw [HLE.out]; exact HF.out.1, HF.out.2⟩
  refine AllReadyH.cons rfl (fun K' hK => ?_) AllReadyH.nil
  rw [if_pos (by rfl)]
  refine wp_buildSlice 36 73 1 #[(0, .tmp 23)] rfl (Value.int .i64 tn :: cl5).toArray j0 (.agg zA) Tryz.underlying36 hj0 hj1 (by rw [hj2]; decide) (by rw [hj2]; decide) (by simp only [List.map_toArray, List.map_cons, List.map_nil]; exact ask_fill (Value.int .i64 tn :: cl5).toArray (by simp [hl5]) j0 hj2) ?_
  simp only [Act.put, List.getElem_toArray, List.getElem_cons_zero, List.getElem_cons_succ, List.setIfInBounds_toArray, List.set_cons_zero, List.set_cons_succ]
  refine hK.out _ _ hr6 (fun hHeld => ?_)
  clear hK K'
  refine wpAnyH_ready (rs := [1]) (by kernel_rfl) (by simp) ?_
  refine AllReadyH.cons rfl (fun K' hK => ?_) AllReadyH.nil
  rw [if_pos (by rfl)]
  go_simp
  refine hK.out _ _ hHeld (fun hHeld => ?_)
  clear hK K'
  refine wpAnyH_ready (rs := [7]) (by kernel_rfl) (by simp) ?_
  refine AllReadyH.cons rfl (fun K' hK => ?_) AllReadyH.nil
  rw [if_pos (by rfl)]
  refine wp_append_run (.tmp 19) (.tmp 24) 36 36 rfl (.slice q xs.length c) (.slice (some ⟨w5.heap.size, 0, none⟩) 1 1) rfl rfl _ _ e5 ?_
  simp only [Act.put, List.getElem_toArray, List.getElem_cons_zero, List.getElem_cons_succ, List.setIfInBounds_toArray, List.set_cons_zero, List.set_cons_succ]
  refine hK.out _ _ hr7 (fun hHeld => ?_)
  clear hK K'
  refine wpAnyH_ready (rs := [8]) (by kernel_rfl) (by simp) ?_
  refine AllReadyH.cons rfl (fun K' hK => ?_) AllReadyH.nil
  rw [if_pos (by rfl)]
  go_simp
  refine hK.out _ _ hr7 (fun hHeld => ?_)
  clear hK K'
  refine wpAnyH_ready (rs := [9]) (by kernel_rfl) (by simp) ?_
  refine AllReadyH.cons rfl (fun K' hK => ?_) AllReadyH.nil
  rw [if_pos (by rfl)]
  go_simp
  refine hK.out _ _ hr8 (fun hHeld => ?_)
  clear hK K'
  refine wpAnyH_done (by kernel_rfl) ?_ _
  clear hHeld hr5 hr6 hr7 hr8 g5 g6 g7 f7 e7 e5 hbd g4 hj0 hj1 hj2 hj3
  obtain ⟨hx7, hl7, hb7, hy3, hs7⟩ := HE.out
  have e3 := cell_of_row (k := 0) hx7 rfl
  have f1 := frozen_zero hy3 0
  have g3 := cell_of_row (k := 0) hy3 rfl
  have hs0 := HS0.out
  obtain ⟨a1, a2, a3, a4, a5⟩ := setCell_any X3 (w.heap.size + 1 + 1) 0 (.slice q5 (xs.length + 1) c5)
  have hgY : (X3.setCell ⟨w.heap.size + 1 + 1, 0, none⟩ (.slice q5 (xs.length + 1) c5)).heap[w.heap.size + 1 + 1]? = some (.cells #[.slice q5 (xs.length + 1) c5] 38 (0, 0)) := by rw [setCell_eq_setRow X3 _ 0 _ 38 (0, 0) _ hy3]; exact setRow_heap X3 _ _ _ 38 _ hy3
  have hlY : ListIs rAsk 48 648 (From w.heap.size (X3.setCell ⟨w.heap.size + 1 + 1, 0, none⟩ (.slice q5 (xs.length + 1) c5))) (X3.setCell ⟨w.heap.size + 1 + 1, 0, none⟩ (.slice q5 (xs.length + 1) c5)) (.slice q5 (xs.length + 1) c5) (xs ++ [(tn, m)]) := hl7.mono mAsk (fun b hb => ⟨by have := hb.1; omega, by rw [a1]; exact hb.2⟩) ⟨a2, a3, a4, by omega, fun b hb => a5 b (by have := hb.1; omega)⟩
  have hbY : Below w.heap.size w (X3.setCell ⟨w.heap.size + 1 + 1, 0, none⟩ (.slice q5 (xs.length + 1) c5)) := ⟨a2.trans hb7.os, a3.trans hb7.tape, a4.trans hb7.output, by have := hb7.size; omega, fun b hb => by rw [a5 b (by omega)]; exact hb7.block b hb⟩
  obtain ⟨Y, hY⟩ : ∃ Y, X3.setCell ⟨w.heap.size + 1 + 1, 0, none⟩ (.slice q5 (xs.length + 1) c5) = Y := ⟨_, rfl⟩
  rw [hY] at hgY hlY hbY
  have d0 := cell_of_row (k := 0) hgY rfl
  have HF := hid (And.intro hlY hbY)
  have hlen : (xs ++ [(tn, m)]).length = xs.length + 1 := by simp
  have HLE : Hid ((xs ++ [(tn, m)]).length = xs.length + 1) := hlen
  clear a1 a2 a3 a4 a5 hgY hlY hbY hx7 hl7 hb7 hy3 hs7 hs0 hlen
  go_wp2_with fail
  refine bodyPost_ret (v := .tuple #[.agg #[.slice q5 (xs.length + 1) c5], .int .i64 0]) (by simp [results, Tryz.results17, go_sem, d0]) rfl ?_
  exact ⟨q5, c5, by rw [HLE.out], by rw [HLE.out]; exact HF.out.1, HF.out.2⟩
 ·obtain rfl : xs = ys := by rw [← HYS.out, if_neg hk0]
  obtain ⟨y1, y2, y3, y4⟩ := HV.out w3 HB3.out
  have e3 := cell_of_row (k := 0) HG3.out rfl
  obtain ⟨q', c', hq', hl3⟩ := HJ3.out.list mAsk (bytes := 648) (by obtain ⟨_, _, _, hby, _⟩ := (HTB.out w3 y4).2.2.2.1; exact hby)
  rw [← hq'] at hl3
  obtain ⟨a1, a2, a3, a4, a5⟩ := setCell_any w3 (w.heap.size + 1 + 1) 0 (.slice q xs.length c)
  have hgY : (w3.setCell ⟨w.heap.size + 1 + 1, 0, none⟩ (.slice q xs.length c)).heap[w.heap.size + 1 + 1]? = some (.cells #[.slice q xs.length c] 38 (0, 0)) := by rw [setCell_eq_setRow w3 _ 0 _ 38 (0, 0) _ y3]; exact setRow_heap w3 _ _ _ 38 _ y3
  have hs0 := HS0.out
  have hlY : ListIs rAsk 48 648 (From w.heap.size (w3.setCell ⟨w.heap.size + 1 + 1, 0, none⟩ (.slice q xs.length c))) (w3.setCell ⟨w.heap.size + 1 + 1, 0, none⟩ (.slice q xs.length c)) (.slice q xs.length c) xs := hl3.mono mAsk (fun b hb => ⟨by have := hb.1; omega, by rw [a1]; exact hb.2⟩) ⟨a2, a3, a4, by omega, fun b hb => a5 b (by have := hb.1; omega)⟩
  have hbY : Below w.heap.size w (w3.setCell ⟨w.heap.size + 1 + 1, 0, none⟩ (.slice q xs.length c)) := ⟨a2.trans y4.os, a3.trans y4.tape, a4.trans y4.output, by have := y4.size; omega, fun b hb => by rw [a5 b (by omega)]; exact y4.block b hb⟩
  obtain ⟨Y, hY⟩ : ∃ Y, w3.setCell ⟨w.heap.size + 1 + 1, 0, none⟩ (.slice q xs.length c) = Y := ⟨_, rfl⟩
  rw [hY] at hgY hlY hbY
  have d0 := cell_of_row (k := 0) hgY rfl
  have f1 := frozen_zero y3 0
  have g3 := cell_of_row (k := 0) y3 rfl
  have HF := hid (And.intro hlY hbY)
  have hk1 : (k == 0) = false := beq_eq_false_iff_ne.2 hk0
  have hk2 : decide (k = 0) = false := by simp [hk0]
  clear a1 a2 a3 a4 a5 hgY hlY hbY y1 y2 y3 y4 hl3 hq' hs0 HJ3 HG3
  go_wp2_with fail
  refine bodyPost_ret (v := .tuple #[.agg #[.slice q xs.length c], .int .i64 k]) (by simp [results, Tryz.results17, go_sem, d0]) rfl ?_
  exact ⟨_, _, rfl, HF.out⟩
end Go.Proofs.YtajomnfeicfdlaaGreatDoor
