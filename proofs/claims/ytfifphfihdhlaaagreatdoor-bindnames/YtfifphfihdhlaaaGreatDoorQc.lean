/- Names and columns. -/
import Derived.Test.YtfifphfihdhlaaaGreatDoorQbTk
import Derived.Test.YtfifphfihdhlaaaGreatDoorShelfC
import Derived.Test.YtfifphfihdhlaaaGreatDoorShelfF
set_option maxRecDepth 100000
set_option maxHeartbeats 32000000
namespace Go.Proofs.YtfifphfihdhlaaaGreatDoor
open Tryz
open Go.Shelf Go.RowKit Go.Lib Go.Sort
set_option linter.unusedVariables false
set_option linter.unusedSimpArgs false
attribute [local go_sem ↓] Go.wp_at_zero Go.wp_at_succ
def GW (w : World) : Prop := WordsIs w ∧ Lib.Utf8Tabs 0 1 w ∧ ∃ m : Int, w.cell? ⟨3, 0, none⟩ = some (.int .i64 m)
theorem GW.of {w w' : World} (h : GW w) (hc : ∀ a : Addr, a.block < 10 → ∀ v, w.cell? a = some v → w'.cell? a = some v) : GW w' := by
 obtain ⟨⟨h1, h2⟩, ⟨h3, h4⟩, m, h5⟩ := h
 exact ⟨⟨fun j u hu => hc _ (by show 2 < 10; omega) _ (h1 j u hu), fun j u hu => hc _ (by show 5 < 10; omega) _ (h2 j u hu)⟩, ⟨fun c hcc => hc _ (by show 0 < 10; omega) _ (h3 c hcc), fun i hi => ⟨hc _ (by show 1 < 10; omega) _ (h4 i hi).1, hc _ (by show 1 < 10; omega) _ (h4 i hi).2⟩⟩, m, hc _ (by show 3 < 10; omega) _ h5⟩
theorem GW.below {w w' : World} (h : GW w) (hb : Bl w w') : GW w' := h.of fun a _ v hv => (hb.cell (World.block_lt_of_cell? w a hv)).trans hv
theorem GW.kept {w w' : World} (h : GW w) (hk : Kept (fun b => b < 10) w w') : GW w' := h.of fun a ha v hv => (hk.cell ha).trans hv
def nameL : Bool → List Let → Bool
 | _, [] => true
 | first, x :: l => if isLetP x.1 || (!first && isDigP x.1) then nameL false l else false
def isNameP (l : List UInt8) : Bool := if l = [] then false else if 64 < l.length then false else if validD l = false then false else if isConstP l then false else nameL true (lets l)
theorem empty_toList : (⟨#[]⟩ : ByteArray).toList = [] := by rw [Lib.toList_data]
theorem nameL_cons (f : Bool) (x : Let) (l : List Let) : nameL f (x :: l) = if isLetP x.1 || (!f && isDigP x.1) then nameL false l else false := rfl
theorem isName_any (s : ByteArray) (w : World) (hG : GW w) : Calls prog 56 #[.string s] w fun e w' => e = .returned (.bool (isNameP s.data.toList)) ∧ Bl w w' := by
 have hsz : s.data.toList.length = s.size := by simp
 obtain ⟨N, hN⟩ := gen (isNameP s.data.toList)
 have HN : Hid ((if s.data.toList = [] then false else if 64 < s.data.toList.length then false else if validD s.data.toList = false then false else if isConstP s.data.toList then false else nameL true (lets s.data.toList)) = N) := hN
 rw [hN]
 clear hN
 by_cases h0 : s.data.toList = []
 · have t1 : (s.toList == (⟨#[]⟩ : ByteArray).toList) = true := by rw [Lib.toList_data, h0, empty_toList]; rfl
   have t2 : (s.toList == []) = true := by rw [Lib.toList_data, h0]; rfl
   have HE : Hid (N = false) := by have := HN.out; rw [if_pos h0] at this; exact this.symm
   clear h0 HN hsz
   go_enter func56, ntmps56
   go_wp2_with fail
   go_ret
   exact ⟨by rw [HE.out]; rfl, Below.refl _ _⟩
 · have t1 : (s.toList == (⟨#[]⟩ : ByteArray).toList) = false := by rw [Lib.toList_data, empty_toList]; exact bfn h0
   have t2 : (s.toList == []) = false := by rw [Lib.toList_data]; exact bfn h0
   by_cases h64 : 64 < s.size
   · have y1 : (64 : Int) < (s.size : Int) := by omega
     have y1d : decide (64 < s.size) = true := decide_eq_true h64
     have HE : Hid (N = false) := by have := HN.out; rw [if_neg h0, if_pos (by omega)] at this; exact this.symm
     clear h0 HN hsz
     go_enter func56, ntmps56
     go_wp2_with fail
     go_ret
     exact ⟨by rw [HE.out]; rfl, Below.refl _ _⟩
   · have y1 : ¬ (64 : Int) < (s.size : Int) := by omega
     have y1d : decide (64 < s.size) = false := decide_eq_false h64
     obtain ⟨V, hV⟩ := gen (validD s.data.toList)
     have C1 : Hid (Calls prog 100 #[.string s] w fun e w' => e = .returned (.bool V) ∧ Bl w w') := by have := Tryz.utf8_ValidString s w (by omega) hG.2.1; rw [hV] at this; exact this
     have HG : Hid (GW w) := hG
     have HNN : Hid (s.data.toList ≠ []) := h0
     have HN1 : Hid ((if V = false then false else if isConstP s.data.toList then false else nameL true (lets s.data.toList)) = N) := by have := HN.out; rw [if_neg h0, if_neg (by omega), hV] at this; exact this
     clear h0 HN hsz hV hG
     go_enter func56, ntmps56
     go_wp2_with fail
     refine C1.out.mono ?_
     rintro e w1 ⟨rfl, hb1⟩
     have HB1 := hid hb1
     clear C1
     cases V with
     | false =>
      have HE : Hid (N = false) := by have := HN1.out; rw [if_pos rfl] at this; exact this.symm
      clear HN1 hb1
      go_wp2_with fail
      go_ret
      exact ⟨by rw [HE.out]; rfl, HB1.out⟩
     | true =>
      obtain ⟨C, hC⟩ := gen (isConstP s.data.toList)
      have C2 : Hid (Calls prog 101 #[.string s] w1 fun e w' => e = .returned (.bool C) ∧ Bl w1 w') := by have := isConst_any s w1 (HG.out.below hb1).1; rw [hC] at this; exact this
      have HN2 : Hid ((if C then false else nameL true (lets s.data.toList)) = N) := by have := HN1.out; rw [if_neg (by simp), hC] at this; exact this
      clear HN1 hb1 hC
      go_wp2_with fail
      refine C2.out.mono ?_
      rintro e w2 ⟨rfl, hb2⟩
      have HB2 : Hid (Bl w w2) := HB1.out.trans (hb2.mono HB1.out.size)
      clear C2 hb2 HB1
      cases C with
      | true =>
       have HE : Hid (N = false) := by show _ = _; have := HN2.out; simpa using this.symm
       clear HN2
       go_wp2_with fail
       go_ret
       exact ⟨by rw [HE.out]; rfl, HB2.out⟩
      | false =>
       have HN3 : Hid (nameL true (lets (s.data.toList.drop 0)) = N) := by show _ = _; have := HN2.out; simpa using this
       clear HN2
       go_wp2_with fail
       go_loopg [3] s.size (fun gf v wx => ∃ (pos : Nat) (f : Bool), wx.heap[w2.heap.size]? = some (.stringIter s pos) ∧ Hid (Bl w wx) ∧ Hid (nameL f (lets (s.data.toList.drop pos)) = N) ∧ Hid (f = decide (pos = 0)) ∧ s.size ≤ pos + gf)
       case atStart => exact ⟨0, true, World.iter_heap w2 s 0, HB2.out.alloc HB2.out.size _, HN3, rfl, by omega⟩
       case round =>
        clear HN3
        obtain ⟨pos, f, hit, HBW, HS, HF, hb⟩ := hrel
        by_cases hp : pos < s.size
        · obtain ⟨g', rfl⟩ : ∃ g', gk = g' + 1 := ⟨gk - 1, by omega⟩
          have hnx : ∀ ty, (Instr.next (.pointer (some ⟨w2.heap.size, 0, none⟩)) true ty).run prog wr = _ := fun ty => Lib.run_next_any_at wr w2.heap.size s pos ty hit hp
          have hne : s.data.toList.drop pos ≠ [] := by
           intro e
           have := congrArg List.length e
           rw [List.length_drop, ← Lib.size_eq] at this
           simp at this
           omega
          have hwd := Lib.width_pos s pos
          have hS := HS.out
          rw [lets_cons _ hne, List.drop_drop, Lib.decodeL_drop, nameL_cons] at hS
          obtain ⟨R, hR⟩ := gen ((Utf8.decode s pos).1)
          obtain ⟨K, hK⟩ := gen ((Utf8.decode s pos).2)
          rw [hR, hK] at hnx hS
          rw [hK] at hwd
          have hit2 := Lib.iterAt_heap wr w2.heap.size s pos (pos + K) hit
          have hbw2 := Lib.below_iterAt HBW.out (k := w2.heap.size) HB2.out.size s (pos + K)
          obtain ⟨W1, hW1⟩ := gen (wr.iterAt w2.heap.size s (pos + K))
          rw [hW1] at hnx hit2 hbw2
          have HW2 := hid hbw2
          have HS2 : Hid ((if isLetP (R : Int) || (!f && isDigP (R : Int)) then nameL false (lets (s.data.toList.drop (pos + K))) else false) = N) := hS
          obtain ⟨A, hA⟩ := gen (isLetP (R : Int))
          have CL : Hid (Calls prog 102 #[.int .i32 (R : Int)] W1 fun e w' => e = .returned (.bool A) ∧ w' = W1) := by have := isLet_any (R : Int) W1; rw [hA] at this; exact this
          obtain ⟨D, hD⟩ := gen (isDigP (R : Int))
          have CD : Hid (Calls prog 103 #[.int .i32 (R : Int)] W1 fun e w' => e = .returned (.bool D) ∧ w' = W1) := by have := isDig_any (R : Int) W1; rw [hD] at this; exact this
          have HS3 : Hid ((if A || (!f && D) then nameL false (lets (s.data.toList.drop (pos + K))) else false) = N) := by have := HS2.out; rw [hA, hD] at this; exact this
          have HZ : Hid (false = decide (pos + K = 0)) := (decide_eq_false (by omega)).symm
          clear hW1 hit hbw2 hS hR hK hne HS HBW HS2 hA hD
          go_wp2_with fail
          refine CL.out.mono ?_
          rintro e w' ⟨rfl, rfl⟩
          clear CL
          cases A with
          | true =>
           have HS4 : Hid (nameL false (lets (s.data.toList.drop (pos + K))) = N) := by show _ = _; have := HS3.out; simpa using this
           clear HS3 CD
           go_wp2_with fail
           go_roundg g'
           case measure => omega
           case rel => exact ⟨pos + K, false, hit2, HW2, HS4, HZ, by omega⟩
          | false =>
           by_cases hp0 : pos = 0
           · have HE : Hid (N = false) := by
              show _ = _
              have h1 := HF.out
              rw [hp0] at h1
              have := HS3.out
              rw [h1] at this
              simpa using this.symm
             have zp : ((pos : Int) == 0) = true := by simp; omega
             clear HS3 CD hp0
             go_wp2_with fail
             go_ret
             exact ⟨by rw [HE.out]; rfl, HW2.out⟩
           · have zp : ((pos : Int) == 0) = false := bfn (by omega)
             have HFF : Hid (f = false) := by show _ = _; rw [HF.out]; exact decide_eq_false hp0
             clear hp0
             go_wp2_with fail
             refine CD.out.mono ?_
             rintro e w' ⟨rfl, rfl⟩
             clear CD
             cases D with
             | true =>
              have HS4 : Hid (nameL false (lets (s.data.toList.drop (pos + K))) = N) := by show _ = _; have := HS3.out; rw [HFF.out] at this; simpa using this
              clear HS3
              go_wp2_with fail
              go_roundg g'
              case measure => omega
              case rel => exact ⟨pos + K, false, hit2, HW2, HS4, HZ, by omega⟩
             | false =>
              have HE : Hid (N = false) := by show _ = _; have := HS3.out; rw [HFF.out] at this; simpa using this.symm
              clear HS3
              go_wp2_with fail
              go_ret
              exact ⟨by rw [HE.out]; rfl, HW2.out⟩
        · have hnx : ∀ ty, (Instr.next (.pointer (some ⟨w2.heap.size, 0, none⟩)) true ty).run prog wr = _ := fun ty => Lib.run_next_end_at wr w2.heap.size s pos ty hit (by omega)
          have HE : Hid (N = true) := by
           have := HS.out
           rw [List.drop_of_length_le (by rw [← Lib.size_eq]; omega), lets_nil] at this
           exact this.symm
          clear HS
          go_wp2_with fail
          go_ret
          exact ⟨by rw [HE.out]; rfl, HBW.out⟩
end Go.Proofs.YtfifphfihdhlaaaGreatDoor
