/- From one to eight things are read. -/
import Derived.Test.YtfifphfihdhlaaaGreatDoorQn
set_option maxRecDepth 100000
set_option maxHeartbeats 32000000
namespace Go.Proofs.YtfifphfihdhlaaaGreatDoor
open Tryz
open Go.Shelf Go.RowKit Go.Lib Go.Sort
set_option linter.unusedVariables false
set_option linter.unusedSimpArgs false
attribute [local go_sem ↓] Go.wp_at_zero Go.wp_at_succ
theorem enters186 : ∀ args w, (callFunc 186 args).run prog w = .ok (.enter 186 args) w := enters_of func186 (by kernel_rfl) rfl
theorem enters191 : ∀ args w, (callFunc 191 args).run prog w = .ok (.enter 191 args) w := enters_of func191 (by kernel_rfl) rfl
theorem inE_str : ∃ i0, prog.info? 9 = some i0 ∧ i0.zero = some (.string ⟨#[]⟩) ∧ i0.size = 1 ∧ i0.bytes = 16 := by
 have h1 : (prog.info? 9).bind (·.zero) = some (.string ⟨#[]⟩) := by kernel_rfl
 have h2 : (prog.info? 9).map (fun i => (i.size, i.bytes)) = some (1, 16) := by kernel_rfl
 cases h : prog.info? 9 with
 | none => rw [h] at h2; cases h2
 | some i0 =>
  rw [h] at h1 h2
  have h3 := Option.some.inj h2
  exact ⟨i0, rfl, h1, (Prod.mk.inj h3).1, (Prod.mk.inj h3).2⟩
theorem inE_itm : ∃ i0, prog.info? 42 = some i0 ∧ i0.zero = some (.agg #[.int .u8 0, .slice none 0 0]) ∧ i0.size = 2 ∧ i0.bytes = 32 := by
 have h1 : (prog.info? 42).bind (·.zero) = some (.agg #[.int .u8 0, .slice none 0 0]) := by kernel_rfl
 have h2 : (prog.info? 42).map (fun i => (i.size, i.bytes)) = some (2, 32) := by kernel_rfl
 cases h : prog.info? 42 with
 | none => rw [h] at h2; cases h2
 | some i0 =>
  rw [h] at h1 h2
  have h3 := Option.some.inj h2
  exact ⟨i0, rfl, h1, (Prod.mk.inj h3).1, (Prod.mk.inj h3).2⟩
theorem own_first {α : Type} {rel : Rel α} (hm : Mono rel) {size : Nat} {te : TypeId} {base : Nat} {X : World} {cs : List Value} {x : α} {K2 : Nat → Prop} (hbase : base ≤ X.heap.size) (hcs : cs.length = size) (hK2 : ∀ b, K2 b → base ≤ b ∧ b < X.heap.size) (hr : rel K2 X cs x) :
 OwnR rel size te base (X.alloc (.cells cs.toArray te)) (.slice (some ⟨X.heap.size, 0, none⟩) 1 1) [x] := by
 have hb := below_alloc X (.cells cs.toArray te)
 refine ⟨K2, cs, fun b hb2 => ⟨(hK2 b hb2).1, nlt (hK2 b hb2).2 hb.size, fun e => ?_⟩, ⟨by simpa using hcs, .inr ⟨X.heap.size, 1, cs.toArray, rfl, hbase, heap_alloc_new X _, Nat.le_refl _, by unfold maxLen; omega, by simpa using hcs, ?_⟩⟩, fun j hj => ?_⟩
 · simp only [Value.ownBlock, Option.some.injEq] at e
   have := (hK2 b hb2).2
   omega
 · rw [List.take_of_length_le (by simp [hcs])]
 · have e : j = 0 := by simpa using hj
   subst e
   simp only [Nat.zero_mul, List.drop_zero]
   rw [List.take_of_length_le (by omega)]
   exact hm _ _ _ _ _ _ (fun _ h => h) (kept_of (fun b h => (hK2 b h).2) hb) hr
def VL {α : Type} (rel : Rel α) (size : Nat) (te : TypeId) : World → World → Value → List α → Prop := fun w w' v l => OwnR rel size te w.heap.size w' v l ∧ l.length ≤ 8
theorem rdr_new {K : Nat → Prop} {B : Nat} {en : Int} {w w2 w3 : World} {x : PS} (rd : Rdr K w2 B en x) (hK : ∀ b, K b → b < w.heap.size) (hB : B < w.heap.size) (hk : Kept (fun b => b < w.heap.size) w2 w3) : Rdr K w3 B en x := by
 have h10 := rd.b10
 refine rd.kept (hk.less fun b hb => ?_)
 rcases hb with hb | hb | hb
 · omega
 · exact hK b hb
 · omega
theorem some_str (fs : List (Value × (Tok → Bool))) (vm : Value) (K : Nat → Prop) (B : Nat) (en : Int) (w : World) (x : PS) (rd : Rdr K w B en x) (hw : ∀ W', Kept (fun b => b < w.heap.size ∧ b ≠ B) w W' → GW W' → WantsAt W' vm fs) :
 Calls prog 188 #[.pointer (some ⟨B, 0, none⟩), .func (.func 186) #[.pointer (some ⟨B, 0, none⟩)] #[], vm] w fun e w' => Out (VL rStr 1 9) K B en w (manyR en (colR en) (anyP fs) x) e w' := by
 have HKK := hid (And.intro rd.kb rd.lt)
 have HW := hid hw
 obtain ⟨gm, om, cm, hvm, _⟩ := hw w (Kept.refl _ _) rd.gw
 subst hvm
 have C1 := hid (col_any K B en w x rd)
 have eg := enters186
 have HR : Hid (manyR en (colR en) (anyP fs) x = andR (colR en x) fun y s => someR en (colR en) (anyP fs) 8 [y] s) := rfl
 obtain ⟨i0, hi0, hz0, hz1, hz2⟩ := inE_str
 clear rd hw
 go_enter func188, ntmps188
 go_wp2_with fail
 refine C1.out.mono ?_
 rintro e w1 ⟨hk1, ⟨y, a, hr, rfl⟩ | ⟨y1, x1, v, hr, rfl, hv1, hrd1⟩⟩
 · have HF : Hid (Out (VL rStr 1 9) K B en w (manyR en (colR en) (anyP fs) x) (faultE y a) w1) := out_fault hk1 (by rw [HR.out, hr]; rfl)
   clear hk1 hr C1
   unfold faultE at HF ⊢
   go_wp2_with fail
   exact ⟨rfl, HF.out⟩
 · obtain ⟨rfl, hty⟩ := hv1
   obtain ⟨s, hs⟩ := bya y1
   have hrs : rStr (fun _ => False) w1 [.string s] y1 := ⟨by rw [hs], hty⟩
   rw [hs]
   obtain ⟨W1, hW1⟩ := gen (w1.alloc (.cells #[.string s] 9))
   have hbW1 : Bl w1 W1 := by rw [← hW1]; exact below_alloc _ _
   have hown : OwnR rStr 1 9 w.heap.size W1 (.slice (some ⟨w1.heap.size, 0, none⟩) 1 1) [y1] := by rw [← hW1]; exact own_first mStr (K2 := fun _ => False) hk1.size rfl (fun b h => h.elim) hrs
   have HOWN := hid hown
   have HRD1 := hid (hrd1.below hbW1)
   have HK1 : Hid (Kept (fun b => b < w.heap.size ∧ b ≠ B) w W1) := hk1.step (kept_below hbW1)
   obtain ⟨R1, hR1⟩ := gen (manyR en (colR en) (anyP fs) x)
   have HR1 : Hid (someR en (colR en) (anyP fs) 8 [y1] x1 = R1) := by show _ = _; rw [← hR1, HR.out, hr]; rfl
   have HRM := hid hR1
   clear C1 hk1 hr hrd1 hbW1 hown HR hR1 hty hs hrs
   go_wp2_with fail
   go_loopg [7] 8 (fun gf s7 wx => ∃ (u : Value) (l : List (List UInt8)) (xi : PS), u = s7 ∧ 1 ≤ l.length ∧ l.length ≤ 8 ∧ 8 ≤ l.length + gf ∧ Hid (OwnR rStr 1 9 w.heap.size wx u l) ∧ Hid (Rdr K wx B en xi) ∧ Hid (Kept (fun b => b < w.heap.size ∧ b ≠ B) w wx) ∧ Hid (someR en (colR en) (anyP fs) (9 - l.length) l xi = R1))
   case atStart => exact ⟨_, [y1], x1, rfl, by simp, by simp, by simp, HOWN, HRD1, HK1, HR1⟩
   case round =>
    clear HOWN HRD1 HK1 HR1
    obtain ⟨u, l, xi, rfl, hl1, hl8, hgf, HOI, HRI, HKI, HTI⟩ := hrel
    obtain ⟨pu, cu, hu⟩ := HOI.out.slice
    subst hu
    obtain ⟨Q, hQ⟩ := gen (comesP (anyP fs) xi)
    have CM := hid (comes_any _ fs K wr B en xi HRI.out (HW.out wr HKI.out HRI.out.gw))
    rw [hQ] at CM
    have HT2 : Hid ((if Q then (if l.length = 8 then .inl (3, placeP en xi) else andR (colR en xi) fun y s => someR en (colR en) (anyP fs) (8 - l.length) (l ++ [y]) s) else .inr (l, xi)) = R1) := by
     have := HTI.out
     rw [show 9 - l.length = (8 - l.length) + 1 by omega] at this
     unfold someR at this
     rw [hQ] at this
     exact this
    clear HTI hQ
    go_wp2_with fail
    refine CM.out.mono ?_
    rintro e w2 ⟨rfl, hb2⟩
    have HK2 : Hid (Kept (fun b => b < w.heap.size ∧ b ≠ B) w w2) := HKI.out.step (kept_below hb2)
    have hrd2 := HRI.out.below hb2
    have HOW2 := hid (HOI.out.keep mStr hb2)
    clear CM HKI HRI HOI hb2
    cases Q with
    | false =>
     have HF : Hid (Out (VL rStr 1 9) K B en w (manyR en (colR en) (anyP fs) x) (.returned (.slice pu l.length cu)) w2) := by
      show Out _ _ _ _ _ _ _ _
      rw [HRM.out]
      exact ⟨HK2.out, .inr ⟨l, xi, _, HT2.out.symm, rfl, ⟨HOW2.out, by omega⟩, hrd2⟩⟩
     clear hrd2 HT2 HK2 HOW2
     go_wp2_with fail
     go_ret
     exact HF.out
    | true =>
     by_cases h8 : l.length = 8
     · have y8 : ((l.length : Int) == 8) = true := by simp [h8]
       have CP := hid (place_any K w2 B en xi hrd2)
       have HF : Hid (Out (VL rStr 1 9) K B en w (manyR en (colR en) (anyP fs) x) (faultE 3 (placeP en xi)) w2) := out_fault HK2.out (by rw [HRM.out, ← HT2.out, if_pos rfl, if_pos h8])
       obtain ⟨m, hm⟩ := gen l.length
       rw [hm] at y8 ⊢
       clear hrd2 HT2 HK2 HOW2 h8 hl1 hl8 hgf hm
       go_wp2_with fail
       refine CP.out.mono ?_
       rintro e w3 ⟨rfl, rfl⟩
       clear CP
       unfold faultE at HF
       go_wp2_with fail
       exact ⟨rfl, HF.out⟩
     · have y8 : ((l.length : Int) == 8) = false := bfn (by omega)
       have C2 := hid (col_any K B en w2 xi hrd2)
       have HT3 : Hid ((andR (colR en xi) fun y s => someR en (colR en) (anyP fs) (8 - l.length) (l ++ [y]) s) = R1) := by show _ = _; rw [← HT2.out, if_pos rfl, if_neg h8]
       obtain ⟨g', rfl⟩ : ∃ g', gk = g' + 1 := ⟨gk - 1, by omega⟩
       obtain ⟨m, hm⟩ := gen l.length
       have HM := hid hm
       rw [hm] at y8 hgf hl1 hl8 h8 ⊢
       clear hrd2 HT2 hm
       go_wp2_with fail
       refine C2.out.mono ?_
       rintro e w3 ⟨hk3, ⟨y, a, hr, rfl⟩ | ⟨y2, x3, v, hr, rfl, hv3, hrd3⟩⟩
       · have HF : Hid (Out (VL rStr 1 9) K B en w (manyR en (colR en) (anyP fs) x) (faultE y a) w3) := out_fault (HK2.out.step hk3) (by rw [HRM.out, ← HT3.out, hr]; rfl)
         clear hk3 hr C2
         unfold faultE at HF ⊢
         go_wp2_with fail
         exact ⟨rfl, HF.out⟩
       · obtain ⟨rfl, hty⟩ := hv3
         obtain ⟨s, hs⟩ := bya y2
         have hrs : rStr (fun _ => False) w3 [.string s] y2 := ⟨by rw [hs], hty⟩
         rw [hs]
         have hs2 := HK2.out.size
         have ho3 : OwnR rStr 1 9 w.heap.size w3 (.slice pu m cu) l := by
          have := HOW2.out
          rw [HM.out] at this
          exact this.held mStr (hk3.less fun b hb => ⟨hb.2, by have := HKK.out.2; omega⟩)
         have hbl := HOW2.out.lt
         rw [HM.out] at hbl
         obtain ⟨v', X2, e2, ho4, hB4, hs4, hk4⟩ := ho3.push mStr (bytes := 16) (ts := 24) underlying24 hi0 hz0 hz1 hz2 rfl (by omega) (by have := hk3.size; omega) (x := y2) (cs := [.string s]) (K2 := fun _ => False) rfl (by intro c hc; simp at hc; rcases hc with rfl <;> rfl) (fun b hb => hb.elim) hrs (by rw [HM.out]; omega) (by rw [HM.out]; unfold maxLen; omega)
         have hb4 : Below w.heap.size w3 X2 := hB4 _ _ (Below.refl _ _) (Nat.le_refl _)
         have HKN : Hid (Kept (fun b => b < w.heap.size ∧ b ≠ B) w X2) := (HK2.out.step hk3).trans (Kept.less ⟨hb4.os, hb4.tape, hb4.output, hb4.size, hb4.block⟩ fun b hb => hb.1)
         have HRN : Hid (Rdr K X2 B en x3) := rdr_new (w := w) hrd3 HKK.out.1 HKK.out.2 ⟨hb4.os, hb4.tape, hb4.output, hb4.size, hb4.block⟩
         have HTN : Hid (someR en (colR en) (anyP fs) (9 - (l ++ [y2]).length) (l ++ [y2]) x3 = R1) := by
          show _ = _
          have := HT3.out
          rw [hr] at this
          rw [show 9 - (l ++ [y2]).length = 8 - l.length by simp]
          exact this
         have HON := hid ho4
         have hlen : (l ++ [y2]).length = m + 1 := by simp [HM.out]
         have HLEN := hid hlen
         clear C2 hk3 hr hrd3 ho3 hbl ho4 hB4 hs4 hk4 hb4 HT3 HOW2 HK2 hlen hs2 HM hty hs hrs
         go_wp2_with (at_builtin; refine Lib.wpList_append_run _ rfl _ _ _ _ rfl (.slice pu m cu) (.slice (some ⟨w3.heap.size, 0, none⟩) 1 1) rfl rfl _ _ e2 ?_)
         go_roundg g'
         case measure => omega
         case rel => exact ⟨_, l ++ [y2], x3, rfl, by rw [HLEN.out]; omega, by rw [HLEN.out]; omega, by rw [HLEN.out]; omega, HON, HRN, HKN, HTN⟩
theorem some_itm (fs : List (Value × (Tok → Bool))) (vm : Value) (K : Nat → Prop) (B : Nat) (en : Int) (w : World) (x : PS) (rd : Rdr K w B en x) (hw : ∀ W', Kept (fun b => b < w.heap.size ∧ b ≠ B) w W' → GW W' → WantsAt W' vm fs) :
 Calls prog 190 #[.pointer (some ⟨B, 0, none⟩), .func (.func 191) #[.pointer (some ⟨B, 0, none⟩)] #[], vm] w fun e w' => Out (VL rItm 2 42) K B en w (manyR en (itemR en) (anyP fs) x) e w' := by
 have HKK := hid (And.intro rd.kb rd.lt)
 have HW := hid hw
 obtain ⟨gm, om, cm, hvm, _⟩ := hw w (Kept.refl _ _) rd.gw
 subst hvm
 have C1 := hid (item_any K B en w x rd)
 have eg := enters191
 have HR : Hid (manyR en (itemR en) (anyP fs) x = andR (itemR en x) fun y s => someR en (itemR en) (anyP fs) 8 [y] s) := rfl
 obtain ⟨i0, hi0, hz0, hz1, hz2⟩ := inE_itm
 clear rd hw
 go_enter func190, ntmps190
 go_wp2_with fail
 refine C1.out.mono ?_
 rintro e w1 ⟨hk1, ⟨y, a, hr, rfl⟩ | ⟨y1, x1, v, hr, rfl, hv1, hrd1⟩⟩
 · have HF : Hid (Out (VL rItm 2 42) K B en w (manyR en (itemR en) (anyP fs) x) (faultE y a) w1) := out_fault hk1 (by rw [HR.out, hr]; rfl)
   clear hk1 hr C1
   unfold faultE at HF ⊢
   go_wp2_with fail
   exact ⟨rfl, HF.out⟩
 · obtain ⟨u0, rfl, hst, h256⟩ := hv1
   obtain ⟨p0, c0, rfl⟩ := hst.slice
   obtain ⟨gi, hgi⟩ : ∃ gi : Int, (y1.g : Int) = gi := ⟨_, rfl⟩
   have hrs : rItm (From w.heap.size w1) w1 [.int .u8 gi, .slice p0 y1.e.length c0] y1 := by
    obtain ⟨p1, c1, e1, hl1⟩ := hst.list
    cases e1
    exact ⟨_, by rw [hgi], hl1, h256, hst.2.2⟩
   obtain ⟨n0, hn0⟩ := gen y1.e.length
   rw [hgi, hn0]
   rw [hn0] at hrs
   obtain ⟨W1, hW1⟩ := gen (w1.alloc (.cells #[.int .u8 gi, .slice p0 n0 c0] 42))
   have hbW1 : Bl w1 W1 := by rw [← hW1]; exact below_alloc _ _
   have hown : OwnR rItm 2 42 w.heap.size W1 (.slice (some ⟨w1.heap.size, 0, none⟩) 1 1) [y1] := by rw [← hW1]; exact own_first mItm (K2 := From w.heap.size w1) hk1.size rfl (fun b hb => hb) hrs
   have HOWN := hid hown
   have HRD1 := hid (hrd1.below hbW1)
   have HK1 : Hid (Kept (fun b => b < w.heap.size ∧ b ≠ B) w W1) := hk1.step (kept_below hbW1)
   obtain ⟨R1, hR1⟩ := gen (manyR en (itemR en) (anyP fs) x)
   have HR1 : Hid (someR en (itemR en) (anyP fs) 8 [y1] x1 = R1) := by show _ = _; rw [← hR1, HR.out, hr]; rfl
   have HRM := hid hR1
   clear C1 hk1 hr hrd1 hbW1 hown HR hR1 hst h256 hgi hrs hn0
   go_wp2_with fail
   go_loopg [7] 8 (fun gf s7 wx => ∃ (u : Value) (l : List Itm) (xi : PS), u = s7 ∧ 1 ≤ l.length ∧ l.length ≤ 8 ∧ 8 ≤ l.length + gf ∧ Hid (OwnR rItm 2 42 w.heap.size wx u l) ∧ Hid (Rdr K wx B en xi) ∧ Hid (Kept (fun b => b < w.heap.size ∧ b ≠ B) w wx) ∧ Hid (someR en (itemR en) (anyP fs) (9 - l.length) l xi = R1))
   case atStart => exact ⟨_, [y1], x1, rfl, by simp, by simp, by simp, HOWN, HRD1, HK1, HR1⟩
   case round =>
    clear HOWN HRD1 HK1 HR1
    obtain ⟨u, l, xi, rfl, hl1, hl8, hgf, HOI, HRI, HKI, HTI⟩ := hrel
    obtain ⟨pu, cu, hu⟩ := HOI.out.slice
    subst hu
    obtain ⟨Q, hQ⟩ := gen (comesP (anyP fs) xi)
    have CM := hid (comes_any _ fs K wr B en xi HRI.out (HW.out wr HKI.out HRI.out.gw))
    rw [hQ] at CM
    have HT2 : Hid ((if Q then (if l.length = 8 then .inl (3, placeP en xi) else andR (itemR en xi) fun y s => someR en (itemR en) (anyP fs) (8 - l.length) (l ++ [y]) s) else .inr (l, xi)) = R1) := by
     have := HTI.out
     rw [show 9 - l.length = (8 - l.length) + 1 by omega] at this
     unfold someR at this
     rw [hQ] at this
     exact this
    clear HTI hQ
    go_wp2_with fail
    refine CM.out.mono ?_
    rintro e w2 ⟨rfl, hb2⟩
    have HK2 : Hid (Kept (fun b => b < w.heap.size ∧ b ≠ B) w w2) := HKI.out.step (kept_below hb2)
    have hrd2 := HRI.out.below hb2
    have HOW2 := hid (HOI.out.keep mItm hb2)
    clear CM HKI HRI HOI hb2
    cases Q with
    | false =>
     have HF : Hid (Out (VL rItm 2 42) K B en w (manyR en (itemR en) (anyP fs) x) (.returned (.slice pu l.length cu)) w2) := by
      show Out _ _ _ _ _ _ _ _
      rw [HRM.out]
      exact ⟨HK2.out, .inr ⟨l, xi, _, HT2.out.symm, rfl, ⟨HOW2.out, by omega⟩, hrd2⟩⟩
     clear hrd2 HT2 HK2 HOW2
     go_wp2_with fail
     go_ret
     exact HF.out
    | true =>
     by_cases h8 : l.length = 8
     · have y8 : ((l.length : Int) == 8) = true := by simp [h8]
       have CP := hid (place_any K w2 B en xi hrd2)
       have HF : Hid (Out (VL rItm 2 42) K B en w (manyR en (itemR en) (anyP fs) x) (faultE 3 (placeP en xi)) w2) := out_fault HK2.out (by rw [HRM.out, ← HT2.out, if_pos rfl, if_pos h8])
       obtain ⟨m, hm⟩ := gen l.length
       rw [hm] at y8 ⊢
       clear hrd2 HT2 HK2 HOW2 h8 hl1 hl8 hgf hm
       go_wp2_with fail
       refine CP.out.mono ?_
       rintro e w3 ⟨rfl, rfl⟩
       clear CP
       unfold faultE at HF
       go_wp2_with fail
       exact ⟨rfl, HF.out⟩
     · have y8 : ((l.length : Int) == 8) = false := bfn (by omega)
       have C2 := hid (item_any K B en w2 xi hrd2)
       have HT3 : Hid ((andR (itemR en xi) fun y s => someR en (itemR en) (anyP fs) (8 - l.length) (l ++ [y]) s) = R1) := by show _ = _; rw [← HT2.out, if_pos rfl, if_neg h8]
       obtain ⟨g', rfl⟩ : ∃ g', gk = g' + 1 := ⟨gk - 1, by omega⟩
       obtain ⟨m, hm⟩ := gen l.length
       have HM := hid hm
       rw [hm] at y8 hgf hl1 hl8 h8 ⊢
       clear hrd2 HT2 hm
       go_wp2_with fail
       refine C2.out.mono ?_
       rintro e w3 ⟨hk3, ⟨y, a, hr, rfl⟩ | ⟨y2, x3, v, hr, rfl, hv3, hrd3⟩⟩
       · have HF : Hid (Out (VL rItm 2 42) K B en w (manyR en (itemR en) (anyP fs) x) (faultE y a) w3) := out_fault (HK2.out.step hk3) (by rw [HRM.out, ← HT3.out, hr]; rfl)
         clear hk3 hr C2
         unfold faultE at HF ⊢
         go_wp2_with fail
         exact ⟨rfl, HF.out⟩
       · obtain ⟨u0, rfl, hst, h256⟩ := hv3
         obtain ⟨p0, c0, rfl⟩ := hst.slice
         obtain ⟨gi, hgi⟩ : ∃ gi : Int, (y2.g : Int) = gi := ⟨_, rfl⟩
         have hrs : rItm (From w2.heap.size w3) w3 [.int .u8 gi, .slice p0 y2.e.length c0] y2 := by
          obtain ⟨p1, c1, e1, hl1⟩ := hst.list
          cases e1
          exact ⟨_, by rw [hgi], hl1, h256, hst.2.2⟩
         obtain ⟨n0, hn0⟩ := gen y2.e.length
         rw [hgi, hn0]
         rw [hn0] at hrs
         have hs2 := HK2.out.size
         have ho3 : OwnR rItm 2 42 w.heap.size w3 (.slice pu m cu) l := by
          have := HOW2.out
          rw [HM.out] at this
          exact this.held mItm (hk3.less fun b hb => ⟨hb.2, by have := HKK.out.2; omega⟩)
         have hbl := HOW2.out.lt
         rw [HM.out] at hbl
         obtain ⟨v', X2, e2, ho4, hB4, hs4, hk4⟩ := ho3.push mItm (bytes := 32) (ts := 22) underlying22 hi0 hz0 hz1 hz2 rfl (by omega) (by have := hk3.size; omega) (x := y2) (cs := [.int .u8 gi, .slice p0 n0 c0]) (K2 := From w2.heap.size w3) rfl (by intro c hc; simp at hc; rcases hc with rfl | rfl <;> rfl) (fun b hb => ⟨by have := hb.1; omega, hb.2, fun e => by have := hbl b e; have := hb.1; omega⟩) hrs (by rw [HM.out]; omega) (by rw [HM.out]; unfold maxLen; omega)
         have hb4 : Below w.heap.size w3 X2 := hB4 _ _ (Below.refl _ _) (Nat.le_refl _)
         have HKN : Hid (Kept (fun b => b < w.heap.size ∧ b ≠ B) w X2) := (HK2.out.step hk3).trans (Kept.less ⟨hb4.os, hb4.tape, hb4.output, hb4.size, hb4.block⟩ fun b hb => hb.1)
         have HRN : Hid (Rdr K X2 B en x3) := rdr_new (w := w) hrd3 HKK.out.1 HKK.out.2 ⟨hb4.os, hb4.tape, hb4.output, hb4.size, hb4.block⟩
         have HTN : Hid (someR en (itemR en) (anyP fs) (9 - (l ++ [y2]).length) (l ++ [y2]) x3 = R1) := by
          show _ = _
          have := HT3.out
          rw [hr] at this
          rw [show 9 - (l ++ [y2]).length = 8 - l.length by simp]
          exact this
         have HON := hid ho4
         have hlen : (l ++ [y2]).length = m + 1 := by simp [HM.out]
         have HLEN := hid hlen
         clear C2 hk3 hr hrd3 ho3 hbl ho4 hB4 hs4 hk4 hb4 HT3 HOW2 HK2 hlen hs2 HM hst h256 hgi hrs hn0
         go_wp2_with (at_builtin; refine Lib.wpList_append_run _ rfl _ _ _ _ rfl (.slice pu m cu) (.slice (some ⟨w3.heap.size, 0, none⟩) 1 1) rfl rfl _ _ e2 ?_)
         go_roundg g'
         case measure => omega
         case rel => exact ⟨_, l ++ [y2], x3, rfl, by rw [HLEN.out]; omega, by rw [HLEN.out]; omega, by rw [HLEN.out]; omega, HON, HRN, HKN, HTN⟩
theorem QBox.put {base : Nat} {W : World} {Q : Nat} {q : Qry} (h : QBox base W Q q) (hQ : Q < base) (k : Nat) (hk : k < 7) (v : Value) (q' : Qry) (hq : ∀ vi vw vg, QIn base W vi vw vg q → ∃ vi' vw' vg', (([vi, .string ⟨q.t.toArray⟩, .string ⟨q.j.toArray⟩, .string ⟨q.a.toArray⟩, .string ⟨q.b.toArray⟩, vw, vg] : List Value).set k v).toArray = q'.cl vi' vw' vg' ∧ QIn base W vi' vw' vg' q') :
 ∃ V c, W.setCell ⟨Q, k, none⟩ v = V ∧ W.cell? ⟨Q, k, none⟩ = some c ∧ W.frozen? ⟨Q, k, none⟩ = false ∧ QBox base V Q q' ∧ Kept (fun b => b ≠ Q) W V ∧ V.heap.size = W.heap.size := by
 obtain ⟨vi, vw, vg, hg, hi⟩ := h
 obtain ⟨vi', vw', vg', e, hi'⟩ := hq vi vw vg hi
 have hg' : W.heap[Q]? = some (.cells ([vi, .string ⟨q.t.toArray⟩, .string ⟨q.j.toArray⟩, .string ⟨q.a.toArray⟩, .string ⟨q.b.toArray⟩, vw, vg] : List Value).toArray 26 (0, 0)) := hg
 obtain ⟨c, hc⟩ : ∃ c, ([vi, .string ⟨q.t.toArray⟩, .string ⟨q.j.toArray⟩, .string ⟨q.a.toArray⟩, .string ⟨q.b.toArray⟩, vw, vg] : List Value)[k]? = some c := ⟨_, List.getElem?_eq_getElem (by simpa using hk)⟩
 obtain ⟨V, h1, h2, h3, h4, h5, h6⟩ := box_put hg' hc v
 have hkk : Kept (fun b => b ≠ Q) W V := h6
 exact ⟨V, c, h1, h2, h3, ⟨vi', vw', vg', by rw [h4, e], hi'.held (hkk.less fun b hb => by omega)⟩, hkk, h5⟩
structure QPre (base : Nat) (K : Nat → Prop) (B Q : Nat) (en : Int) (w : World) (q : Qry) (x : PS) : Prop where
 rd : Rdr K w B en x
 qb : QBox base w Q q
 hb : base ≤ w.heap.size
 hBQ : B < Q
 hQ : Q < base
 hK : ∀ b, K b → b < Q
theorem QPre.step {base : Nat} {K : Nat → Prop} {B Q : Nat} {en : Int} {w w' : World} {q : Qry} {x x' : PS} (h : QPre base K B Q en w q x) (hk : Kept (fun b => b < w.heap.size ∧ b ≠ B) w w') (rd : Rdr K w' B en x') : QPre base K B Q en w' q x' :=
 ⟨rd, h.qb.held h.hQ (hk.less fun b hb => ⟨hb.2, by have := h.hBQ; have := h.hQ; omega⟩), Nat.le_trans h.hb hk.size, h.hBQ, h.hQ, h.hK⟩
theorem QPre.below {base : Nat} {K : Nat → Prop} {B Q : Nat} {en : Int} {w w' : World} {q : Qry} {x : PS} (h : QPre base K B Q en w q x) (hb : Bl w w') : QPre base K B Q en w' q x := h.step (kept_below hb) (h.rd.below hb)
theorem QPre.put {base : Nat} {K : Nat → Prop} {B Q : Nat} {en : Int} {w : World} {q : Qry} {x : PS} (h : QPre base K B Q en w q x) (k : Nat) (hk : k < 7) (v : Value) (q' : Qry) (hq : ∀ vi vw vg, QIn base w vi vw vg q → ∃ vi' vw' vg', (([vi, .string ⟨q.t.toArray⟩, .string ⟨q.j.toArray⟩, .string ⟨q.a.toArray⟩, .string ⟨q.b.toArray⟩, vw, vg] : List Value).set k v).toArray = q'.cl vi' vw' vg' ∧ QIn base w vi' vw' vg' q') :
 ∃ V c, w.setCell ⟨Q, k, none⟩ v = V ∧ w.cell? ⟨Q, k, none⟩ = some c ∧ w.frozen? ⟨Q, k, none⟩ = false ∧ QPre base K B Q en V q' x ∧ Kept (fun b => b ≠ Q) w V ∧ V.heap.size = w.heap.size := by
 obtain ⟨V, c, h1, h2, h3, h4, h5, h6⟩ := h.qb.put h.hQ k hk v q' hq
 have h10 := h.rd.b10
 exact ⟨V, c, h1, h2, h3, ⟨h.rd.kept (h5.less fun b hb => by
  have := h.hBQ
  rcases hb with hb | hb | hb
  · omega
  · have := h.hK b hb; omega
  · omega), h4, by rw [h6]; exact h.hb, h.hBQ, h.hQ, h.hK⟩, h5, h6⟩
def OutQ (base : Nat) (K : Nat → Prop) (B Q : Nat) (en : Int) (w : World) (r : Res Qry) (e : Ending) (w' : World) : Prop :=
 Kept (fun b => b < w.heap.size ∧ b ≠ B ∧ b ≠ Q) w w' ∧ ((∃ y a, r = .inl (y, a) ∧ e = faultE y a) ∨ ∃ q x, r = .inr (q, x) ∧ e = .returned (.tuple #[]) ∧ QPre base K B Q en w' q x)
theorem KQ.call {w w1 w2 : World} {B Q : Nat} (h : Kept (fun b => b < w.heap.size ∧ b ≠ B ∧ b ≠ Q) w w1) (h2 : Kept (fun b => b < w1.heap.size ∧ b ≠ B) w1 w2) : Kept (fun b => b < w.heap.size ∧ b ≠ B ∧ b ≠ Q) w w2 :=
 h.trans (h2.less fun b hb => ⟨nlt hb.1 h.size, hb.2.1⟩)
theorem KQ.put {w w1 w2 : World} {B Q : Nat} (h : Kept (fun b => b < w.heap.size ∧ b ≠ B ∧ b ≠ Q) w w1) (h2 : Kept (fun b => b ≠ Q) w1 w2) : Kept (fun b => b < w.heap.size ∧ b ≠ B ∧ b ≠ Q) w w2 :=
 h.trans (h2.less fun b hb => hb.2.2)
theorem wants_kept {w W' : World} {B : Nat} (vs : Array Value) (hB : w.heap.size ≠ B) (hk : Kept (fun b => b < (w.alloc (.cells vs 187)).heap.size ∧ b ≠ B) (w.alloc (.cells vs 187)) W') : W'.heap[w.heap.size]? = some (.cells vs 187 (0, 0)) :=
 (hk.block _ ⟨by simp, hB⟩).trans (heap_alloc_new w _)
theorem wants_later_one {w W' : World} {B : Nat} (F : Nat) (P : Tok → Bool) (eg : ∀ args w, (callFunc F args).run prog w = .ok (.enter F args) w) (hc : ∀ (x : Tok) (w : World), okT x → GW w → Calls prog F #[x.v] w fun e w' => e = .returned (.bool (P x)) ∧ Bl w w') (hB : w.heap.size ≠ B)
 (hk : Kept (fun b => b < (w.alloc (.cells #[.func (.func F) #[] #[]] 187)).heap.size ∧ b ≠ B) (w.alloc (.cells #[.func (.func F) #[] #[]] 187)) W') (hG : GW W') : WantsAt W' (.slice (some ⟨w.heap.size, 0, none⟩) 1 1) [(.func (.func F) #[] #[], P)] := by
 have hg := wants_kept _ hB hk
 refine ⟨w.heap.size, 0, 1, rfl, (gsi hg).1, by simp, fun i hi => ?_⟩
 have e : i = 0 := by simpa using hi
 subst e
 exact ⟨cell_of_row hg rfl, want_plain F P eg hc W' hG⟩
theorem wants_later_two {w W' : World} {B : Nat} (F G : Nat) (P Q : Tok → Bool) (eg : ∀ args w, (callFunc F args).run prog w = .ok (.enter F args) w) (eg2 : ∀ args w, (callFunc G args).run prog w = .ok (.enter G args) w) (hc : ∀ (x : Tok) (w : World), okT x → GW w → Calls prog F #[x.v] w fun e w' => e = .returned (.bool (P x)) ∧ Bl w w')
 (hc2 : ∀ (x : Tok) (w : World), okT x → GW w → Calls prog G #[x.v] w fun e w' => e = .returned (.bool (Q x)) ∧ Bl w w') (hB : w.heap.size ≠ B)
 (hk : Kept (fun b => b < (w.alloc (.cells #[.func (.func F) #[] #[], .func (.func G) #[] #[]] 187)).heap.size ∧ b ≠ B) (w.alloc (.cells #[.func (.func F) #[] #[], .func (.func G) #[] #[]] 187)) W') (hG : GW W') : WantsAt W' (.slice (some ⟨w.heap.size, 0, none⟩) 2 2) [(.func (.func F) #[] #[], P), (.func (.func G) #[] #[], Q)] := by
 have hg := wants_kept _ hB hk
 refine ⟨w.heap.size, 0, 2, rfl, (gsi hg).1, by simp, fun i hi => ?_⟩
 have hi2 : i < 2 := by simpa using hi
 match i, hi2 with
 | 0, _ => exact ⟨cell_of_row hg rfl, want_plain F P eg hc W' hG⟩
 | 1, _ => exact ⟨cell_of_row hg rfl, want_plain G Q eg2 hc2 W' hG⟩
theorem join_any (base : Nat) (K : Nat → Prop) (B Q : Nat) (en : Int) (w : World) (q : Qry) (x : PS) (hp : QPre base K B Q en w q x) :
 Calls prog 170 #[.pointer (some ⟨B, 0, none⟩), .pointer (some ⟨Q, 0, none⟩)] w fun e w' => OutQ base K B Q en w (clauseR en 0 q x) e w' := by
 have HP := hid hp
 have HK0 : Hid (Kept (fun b => b < w.heap.size ∧ b ≠ B ∧ b ≠ Q) w w) := Kept.refl _ _
 obtain ⟨W0, hW0⟩ := gen (w.alloc (.cells #[.func (.func 152) #[] #[]] 187))
 have C := hid (take_one 152 namP enters152 isNameT_any K w B en x hp.rd)
 rw [hW0] at C
 have HR : Hid (clauseR en 0 q x = andR (takeP en namP x) fun x s => andR (colR en s) fun a s => andR (colR en s) fun b s => .inr (⟨q.i, q.t, x.t, a, b, q.w, q.g⟩, s)) := rfl
 clear hp
 go_enter func170, ntmps170
 go_wp2_with fail
 refine C.out.mono ?_
 rintro e w1 ⟨hk1, ⟨y, a, hr, rfl⟩ | ⟨t, x1, v, hr, rfl, ⟨rfl, hok⟩, hrd1⟩⟩
 · have HF : Hid (OutQ base K B Q en w (clauseR en 0 q x) (faultE y a) w1) := ⟨KQ.call HK0.out hk1, .inl ⟨y, a, by rw [HR.out, hr]; rfl, rfl⟩⟩
   clear hk1 C hr
   unfold faultE at HF ⊢
   go_wp2_with fail
   exact ⟨rfl, HF.out⟩
 · obtain ⟨s, hs⟩ := bya t.t
   have hv : t.v = .agg #[.int .u8 t.k, .string s, .int .i64 t.n, .int .i64 t.a] := by rw [← hs]; rfl
   have hfd := text_of s t.k t.n t.a
   obtain ⟨V1, cc, hV1, hc1, hf1, hp1, hk, hs1⟩ := (HP.out.step hk1 hrd1).put 2 (by omega) (.string s) ⟨q.i, q.t, t.t, q.a, q.b, q.w, q.g⟩ (fun vi vw vg hi => ⟨vi, vw, vg, by rw [← hs]; rfl, hi.1, hi.2.1, hi.2.2.1, hi.2.2.2.1, hok.2.2.2, hi.2.2.2.2.2⟩)
   have HK1 := hid (KQ.put (KQ.call HK0.out hk1) hk)
   have C2 := hid (col_any K B en V1 x1 hp1.rd)
   have HP1 := hid hp1
   have HR2 : Hid (clauseR en 0 q x = andR (colR en x1) fun a s => andR (colR en s) fun b s => .inr (⟨q.i, q.t, t.t, a, b, q.w, q.g⟩, s)) := by show _ = _; rw [HR.out, hr]; rfl
   rw [hv]
   clear hk1 hr C hok hrd1 hs hv hp1 hk hs1 HP HR HK0
   have HR := HR2
   clear HR2
   go_wp2_with fail
   refine C2.out.mono ?_
   rintro e w2 ⟨hk2, ⟨y, a, hr, rfl⟩ | ⟨ta, x2, v, hr, rfl, ⟨rfl, hla⟩, hrd2⟩⟩
   · have HF : Hid (OutQ base K B Q en w (clauseR en 0 q x) (faultE y a) w2) := ⟨KQ.call HK1.out hk2, .inl ⟨y, a, by rw [HR.out, hr]; rfl, rfl⟩⟩
     clear hk2 C2 hr
     unfold faultE at HF ⊢
     go_wp2_with fail
     exact ⟨rfl, HF.out⟩
   · obtain ⟨sa, hsa⟩ := bya ta
     obtain ⟨V2, cc2, hV2, hc2, hf2, hp2, hk, hs2⟩ := (HP1.out.step hk2 hrd2).put 3 (by omega) (.string sa) ⟨q.i, q.t, t.t, ta, q.b, q.w, q.g⟩ (fun vi vw vg hi => ⟨vi, vw, vg, by rw [← hsa]; rfl, hi.1, hi.2.1, hi.2.2.1, hi.2.2.2.1, hi.2.2.2.2.1, hla, hi.2.2.2.2.2.2⟩)
     have HK2 := hid (KQ.put (KQ.call HK1.out hk2) hk)
     have C3 := hid (col_any K B en V2 x2 hp2.rd)
     have HP2 := hid hp2
     have HR2 : Hid (clauseR en 0 q x = andR (colR en x2) fun b s => .inr (⟨q.i, q.t, t.t, ta, b, q.w, q.g⟩, s)) := by show _ = _; rw [HR.out, hr]; rfl
     rw [hsa]
     clear hk2 hr C2 hla hrd2 hsa hp2 hk hs2 HP1 HR HK1 hV1 hc1 hf1
     have HR := HR2
     clear HR2
     go_wp2_with fail
     refine C3.out.mono ?_
     rintro e w3 ⟨hk3, ⟨y, a, hr, rfl⟩ | ⟨tb, x3, v, hr, rfl, ⟨rfl, hlb⟩, hrd3⟩⟩
     · have HF : Hid (OutQ base K B Q en w (clauseR en 0 q x) (faultE y a) w3) := ⟨KQ.call HK2.out hk3, .inl ⟨y, a, by rw [HR.out, hr]; rfl, rfl⟩⟩
       clear hk3 C3 hr
       unfold faultE at HF ⊢
       go_wp2_with fail
       exact ⟨rfl, HF.out⟩
     · obtain ⟨sb, hsb⟩ := bya tb
       obtain ⟨V3, cc3, hV3, hc3, hf3, hp3, hk, hs3⟩ := (HP2.out.step hk3 hrd3).put 4 (by omega) (.string sb) ⟨q.i, q.t, t.t, ta, tb, q.w, q.g⟩ (fun vi vw vg hi => ⟨vi, vw, vg, by rw [← hsb]; rfl, hi.1, hi.2.1, hi.2.2.1, hi.2.2.2.1, hi.2.2.2.2.1, hi.2.2.2.2.2.1, hlb⟩)
       have HF : Hid (OutQ base K B Q en w (clauseR en 0 q x) (.returned (.tuple #[])) V3) := ⟨KQ.put (KQ.call HK2.out hk3) hk, .inr ⟨_, x3, by rw [HR.out, hr]; rfl, rfl, hp3⟩⟩
       rw [hsb]
       clear hk3 hr C3 hlb hrd3 hsb hp3 hk hs3 HP2 HR HK2 hV2 hc2 hf2
       go_wp2_with fail
       go_end0
       exact HF.out
theorem where_any (base : Nat) (K : Nat → Prop) (B Q : Nat) (en : Int) (w : World) (q : Qry) (x : PS) (hp : QPre base K B Q en w q x) :
 Calls prog 171 #[.pointer (some ⟨B, 0, none⟩), .pointer (some ⟨Q, 0, none⟩)] w fun e w' => OutQ base K B Q en w (clauseR en 1 q x) e w' := by
 have HP := hid hp
 have HK0 : Hid (Kept (fun b => b < w.heap.size ∧ b ≠ B ∧ b ≠ Q) w w) := Kept.refl _ _
 have C := hid (expr_any K B en w x hp.rd)
 have HR : Hid (clauseR en 1 q x = andR (exprR en x) fun l s => .inr (⟨q.i, q.t, q.j, q.a, q.b, l, q.g⟩, s)) := rfl
 clear hp
 go_enter func171, ntmps171
 go_wp2_with fail
 refine C.out.mono ?_
 rintro e w1 ⟨hk1, ⟨y, a, hr, rfl⟩ | ⟨l, x1, v, hr, rfl, hst, hrd1, _⟩⟩
 · have HF : Hid (OutQ base K B Q en w (clauseR en 1 q x) (faultE y a) w1) := ⟨KQ.call HK0.out hk1, .inl ⟨y, a, by rw [HR.out, hr]; rfl, rfl⟩⟩
   clear hk1 C hr
   unfold faultE at HF ⊢
   go_wp2_with fail
   exact ⟨rfl, HF.out⟩
 · obtain ⟨pu, cu, rfl⟩ := hst.slice
   obtain ⟨V1, cc, hV1, hc1, hf1, hp1, hk, hs1⟩ := (HP.out.step hk1 hrd1).put 5 (by omega) (.slice pu l.length cu) ⟨q.i, q.t, q.j, q.a, q.b, l, q.g⟩ (fun vi vw vg hi => ⟨vi, _, vg, rfl, hi.1, hst.base HP.out.hb, hi.2.2⟩)
   have HF : Hid (OutQ base K B Q en w (clauseR en 1 q x) (.returned (.tuple #[])) V1) := ⟨KQ.put (KQ.call HK0.out hk1) hk, .inr ⟨_, x1, by rw [HR.out, hr]; rfl, rfl, hp1⟩⟩
   obtain ⟨m, hm⟩ := gen l.length
   rw [hm] at hV1 ⊢
   clear hk1 hr C hst hrd1 hp1 hk hs1 HP HR HK0 hm
   go_wp2_with fail
   go_end0
   exact HF.out
theorem group_any (base : Nat) (K : Nat → Prop) (B Q : Nat) (en : Int) (w : World) (q : Qry) (x : PS) (hp : QPre base K B Q en w q x) :
 Calls prog 172 #[.pointer (some ⟨B, 0, none⟩), .pointer (some ⟨Q, 0, none⟩)] w fun e w' => OutQ base K B Q en w (clauseR en 2 q x) e w' := by
 have HP := hid hp
 have HK0 : Hid (Kept (fun b => b < w.heap.size ∧ b ≠ B ∧ b ≠ Q) w w) := Kept.refl _ _
 obtain ⟨W0, hW0⟩ := gen (w.alloc (.cells #[.func (.func 189) #[] #[]] 187))
 have hb0 : Bl w W0 := by rw [← hW0]; exact below_alloc _ _
 have C := hid (some_str [(.func (.func 189) #[] #[], colP)] (.slice (some ⟨w.heap.size, 0, none⟩) 1 1) K B en W0 x (hp.rd.below hb0) (fun W' hk hG => by rw [← hW0] at hk; exact wants_later_one 189 colP enters189 isColT_any (Nat.ne_of_gt hp.rd.lt) hk hG))
 rw [anyP_one] at C
 have HK1 : Hid (Kept (fun b => b < w.heap.size ∧ b ≠ B ∧ b ≠ Q) w W0) := KQ.call HK0.out (kept_below hb0)
 have HP0 := hid (hp.below hb0)
 have HSZ : Hid (base ≤ W0.heap.size) := Nat.le_trans hp.hb hb0.size
 have HR : Hid (clauseR en 2 q x = andR (manyR en (colR en) colP x) fun l s => .inr (⟨q.i, q.t, q.j, q.a, q.b, q.w, l⟩, s)) := rfl
 clear hp hb0 HK0 HP
 go_enter func172, ntmps172
 go_wp2_with fail
 refine C.out.mono ?_
 rintro e w1 ⟨hk1, ⟨y, a, hr, rfl⟩ | ⟨l, x1, v, hr, rfl, hvl, hrd1⟩⟩
 · have HF : Hid (OutQ base K B Q en w (clauseR en 2 q x) (faultE y a) w1) := ⟨KQ.call HK1.out hk1, .inl ⟨y, a, by rw [HR.out, hr]; rfl, rfl⟩⟩
   clear hk1 C hr
   unfold faultE at HF ⊢
   go_wp2_with fail
   exact ⟨rfl, HF.out⟩
 · obtain ⟨pu, cu, rfl⟩ := hvl.1.slice
   obtain ⟨V1, cc, hV1, hc1, hf1, hp1, hk, hs1⟩ := (HP0.out.step hk1 hrd1).put 6 (by omega) (.slice pu l.length cu) ⟨q.i, q.t, q.j, q.a, q.b, q.w, l⟩ (fun vi vw vg hi => ⟨vi, vw, _, rfl, hi.1, hi.2.1, ⟨hvl.1.base HSZ.out, hvl.2⟩, hi.2.2.2⟩)
   have HF : Hid (OutQ base K B Q en w (clauseR en 2 q x) (.returned (.tuple #[])) V1) := ⟨KQ.put (KQ.call HK1.out hk1) hk, .inr ⟨_, x1, by rw [HR.out, hr]; rfl, rfl, hp1⟩⟩
   obtain ⟨m, hm⟩ := gen l.length
   rw [hm] at hV1 ⊢
   clear hk1 hr C hvl hrd1 hp1 hk hs1 HP0 HR HK1 hm
   go_wp2_with fail
   go_end0
   exact HF.out
theorem get_any (base : Nat) (K : Nat → Prop) (B Q : Nat) (en : Int) (w : World) (q : Qry) (x : PS) (hp : QPre base K B Q en w q x) :
 Calls prog 173 #[.pointer (some ⟨B, 0, none⟩), .pointer (some ⟨Q, 0, none⟩)] w fun e w' => OutQ base K B Q en w (clauseR en 3 q x) e w' := by
 have HP := hid hp
 have HK0 : Hid (Kept (fun b => b < w.heap.size ∧ b ≠ B ∧ b ≠ Q) w w) := Kept.refl _ _
 obtain ⟨W0, hW0⟩ := gen (w.alloc (.cells #[.func (.func 192) #[] #[], .func (.func 150) #[] #[]] 187))
 have hb0 : Bl w W0 := by rw [← hW0]; exact below_alloc _ _
 have C := hid (some_itm [(.func (.func 192) #[] #[], lefP), (.func (.func 150) #[] #[], opnP)] (.slice (some ⟨w.heap.size, 0, none⟩) 2 2) K B en W0 x (hp.rd.below hb0) (fun W' hk hG => by rw [← hW0] at hk; exact wants_later_two 192 150 lefP opnP enters192 enters150 isLeaf_any isOpen_any (Nat.ne_of_gt hp.rd.lt) hk hG))
 rw [anyP_two] at C
 have HK1 : Hid (Kept (fun b => b < w.heap.size ∧ b ≠ B ∧ b ≠ Q) w W0) := KQ.call HK0.out (kept_below hb0)
 have HP0 := hid (hp.below hb0)
 have HSZ : Hid (base ≤ W0.heap.size) := Nat.le_trans hp.hb hb0.size
 have HR : Hid (clauseR en 3 q x = andR (manyR en (itemR en) (fun t => lefP t || opnP t) x) fun l s => .inr (⟨l, q.t, q.j, q.a, q.b, q.w, q.g⟩, s)) := rfl
 clear hp hb0 HK0 HP
 go_enter func173, ntmps173
 go_wp2_with fail
 refine C.out.mono ?_
 rintro e w1 ⟨hk1, ⟨y, a, hr, rfl⟩ | ⟨l, x1, v, hr, rfl, hvl, hrd1⟩⟩
 · have HF : Hid (OutQ base K B Q en w (clauseR en 3 q x) (faultE y a) w1) := ⟨KQ.call HK1.out hk1, .inl ⟨y, a, by rw [HR.out, hr]; rfl, rfl⟩⟩
   clear hk1 C hr
   unfold faultE at HF ⊢
   go_wp2_with fail
   exact ⟨rfl, HF.out⟩
 · obtain ⟨pu, cu, rfl⟩ := hvl.1.slice
   obtain ⟨V1, cc, hV1, hc1, hf1, hp1, hk, hs1⟩ := (HP0.out.step hk1 hrd1).put 0 (by omega) (.slice pu l.length cu) ⟨l, q.t, q.j, q.a, q.b, q.w, q.g⟩ (fun vi vw vg hi => ⟨_, vw, vg, rfl, ⟨hvl.1.base HSZ.out, hvl.2⟩, hi.2⟩)
   have HF : Hid (OutQ base K B Q en w (clauseR en 3 q x) (.returned (.tuple #[])) V1) := ⟨KQ.put (KQ.call HK1.out hk1) hk, .inr ⟨_, x1, by rw [HR.out, hr]; rfl, rfl, hp1⟩⟩
   obtain ⟨m, hm⟩ := gen l.length
   rw [hm] at hV1 ⊢
   clear hk1 hr C hvl hrd1 hp1 hk hs1 HP0 HR HK1 hm
   go_wp2_with fail
   go_end0
   exact HF.out
end Go.Proofs.YtfifphfihdhlaaaGreatDoor
