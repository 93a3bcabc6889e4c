/- Whether the reference finds a text to be in UTF-8. -/
import Derived.Test.YtnmmojhbcnlboaaGreatDoorRgRh
import Derived.Lib.ValidLaws
import Derived.Test.YtnmmojhbcnlboaaGreatDoorSaSbScSd
import Derived.Lib.IndexBytes
import Derived.Lib.IndexLaws
import Derived.Deep.DeepCutAuto
import Derived.Lib.ItoaMem
import Derived.Test.YtnmmojhbcnlboaaGreatDoorPtPu
import Derived.Test.YtnmmojhbcnlboaaGreatDoorPsPpPnPw
import Derived.Laws.Runes
import Derived.Test.YtnmmojhbcnlboaaGreatDoorPaPb
namespace Go.Proofs.YtnmmojhbcnlboaaGreatDoor.Rf
open Go.Shelf Go.RowKit Go.Lib Go.Sort
set_option linter.unusedVariables false
set_option linter.unusedSimpArgs false
attribute [local go_sem ↓] Go.wp_at_zero Go.wp_at_succ
theorem getD_app (l m : List UInt8) (i : Nat) (h : i < l.length) : (l ++ m).getD i 0 = l.getD i 0 := by
  simp [List.getD, List.getElem?_append_left h]
theorem decodeL_app (l m : List UInt8) (hne : l ≠ []) (hv : ¬ ((decodeL l).1 = 65533 ∧ (decodeL l).2 = 1)) : decodeL (l ++ m) = decodeL l := by
  have hl : 0 < l.length := by
    cases l with
    | nil => exact absurd rfl hne
    | cons _ _ => simp
  rw [decodeL_N] at hv
  rw [decodeL_N, decodeL_N l]
  have hn : l.length ≤ (l ++ m).length := by simp
  have e0 := getD_app l m 0 hl
  rw [e0]
  rcases decodeN_shape l.length (l.getD 0 0).toNat (l.getD 1 0).toNat (l.getD 2 0).toNat (l.getD 3 0).toNat with ⟨h, e⟩ | ⟨h0, h1, h2, h3, e⟩ | ⟨h0, h1, h2, h3, h4, h5, e⟩ | ⟨h0, h1, h2, h3, h4, h5, h6, e⟩ | e
  · rw [e]; exact decodeN_ascii _ _ _ _ _ h
  · have e1 := getD_app l m 1 h1
    rw [e, e1]
    generalize (l.getD 0 0).toNat = b0 at *
    generalize (l.getD 1 0).toNat = b1 at *
    unfold decodeN
    rw [if_neg (by omega), if_pos (by omega), if_pos (by omega)]
  · have e1 := getD_app l m 1 (by omega)
    have e2 := getD_app l m 2 h1
    rw [e, e1, e2]
    generalize (l.getD 0 0).toNat = b0 at *
    generalize (l.getD 1 0).toNat = b1 at *
    generalize (l.getD 2 0).toNat = b2 at *
    unfold decodeN
    rw [if_neg (by omega), if_neg (by omega), if_pos (by omega), if_pos (by omega)]
  · have e1 := getD_app l m 1 (by omega)
    have e2 := getD_app l m 2 (by omega)
    have e3 := getD_app l m 3 h1
    rw [e, e1, e2, e3]
    generalize (l.getD 0 0).toNat = b0 at *
    generalize (l.getD 1 0).toNat = b1 at *
    generalize (l.getD 2 0).toNat = b2 at *
    generalize (l.getD 3 0).toNat = b3 at *
    unfold decodeN
    rw [if_neg (by omega), if_neg (by omega), if_neg (by omega), if_pos (by omega), if_pos (by omega)]
  · exact absurd ⟨congrArg Prod.fst e, congrArg Prod.snd e⟩ hv
/-- A rune 65533 is a bad one just if it is not spelled with its own three bytes. -/
theorem bad_iff (l : List UInt8) (hne : l ≠ []) (h : (decodeL l).1 = 65533) : (decodeL l).2 = 1 ↔ l.take 3 ≠ [239, 191, 189] := by
  constructor
  · intro h1 e
    have hl : l = [239, 191, 189] ++ l.drop 3 := by rw [← e, List.take_append_drop]
    have hd : decodeL [239, 191, 189] = (65533, 3) := by decide +kernel
    rw [hl, decodeL_app _ _ (by simp) (by rw [hd]; decide), hd] at h1
    cases h1
  · intro hn
    by_cases h1 : (decodeL l).2 = 1
    · exact h1
    · exfalso
      apply hn
      have t := Lib.encode_decode l hne (fun x => h1 x.2)
      have hk := Lib.decodeL_le l hne
      rw [h] at t
      have t2 : [239, 191, 189] = l.take (decodeL l).2 := by rw [← t]; decide +kernel
      have hlen := congrArg List.length t2
      rw [List.length_take] at hlen
      simp at hlen
      rw [show (3 : Nat) = (decodeL l).2 by omega]
      exact t2.symm
theorem three_list (s : ByteArray) (p : Nat) : (s.extract p (p + 3)).toList = (s.data.toList.drop p).take 3 := by
  rw [Lib.toList_data, ByteArray.data_extract, Array.toList_extract, List.extract_eq_take_drop]
  congr 1
  omega
theorem drop_ne (s : ByteArray) (pos : Nat) (h : pos < s.size) : s.data.toList.drop pos ≠ [] := by
  intro e
  have := congrArg List.length e
  rw [List.length_drop, ← Lib.size_eq] at this
  simp at this
  omega
set_option maxRecDepth 100000 in
set_option maxHeartbeats 2000000 in
theorem utf_core (s : ByteArray) (w : World) (hs : s.size ≤ 1048576) (T : Bool) (HT : Hid (Lib.validD s.data.toList = T)) :
    Calls Tryz.prog 23 #[.string s] w fun e w' => e = .returned (.bool T) ∧ Below w.heap.size w w' := by
  go_enter Tryz.func23, Tryz.ntmps23
  go_wp2
  go_loopg [] s.size (fun gf wx => ∃ pos : Nat, wx.heap[w.heap.size]? = some (.stringIter s pos) ∧ Below w.heap.size w wx ∧ Hid (Lib.validD (s.data.toList.drop pos) = T) ∧ s.size ≤ pos + gf)
  case atStart => exact ⟨0, World.iter_heap w s 0, (Below.refl _ w).alloc (Nat.le_refl _) _, HT, by omega⟩
  case round =>
    obtain ⟨pos, hit, hbw, HV, hfu⟩ := hrel
    by_cases hps : pos < s.size
    · obtain ⟨g', rfl⟩ : ∃ g', gk = g' + 1 := ⟨gk - 1, by omega⟩
      have hnx : ∀ ty, (Instr.next (.pointer (some ⟨w.heap.size, 0, none⟩)) true ty).run Tryz.prog wr = _ := fun ty => Lib.run_next_any_at wr w.heap.size s pos ty hit hps
      have hwd := Lib.width_pos s pos
      have hne := drop_ne s pos hps
      have hv := HV.out
      rw [Lib.validD_step _ hne, List.drop_drop] at hv
      have hbi := bad_iff _ hne
      rw [Lib.decodeL_drop] at hv hbi
      obtain ⟨R, hR⟩ : ∃ R, (Utf8.decode s pos).1 = R := ⟨_, rfl⟩
      obtain ⟨K, hK⟩ : ∃ K, (Utf8.decode s pos).2 = K := ⟨_, rfl⟩
      rw [hR, hK] at hnx hv hbi
      rw [hK] at hwd
      have h3 := three_list s pos
      have hlen : ((s.data.toList.drop pos).take 3).length = min 3 (s.size - pos) := by rw [List.length_take, List.length_drop, ← Lib.size_eq]
      have hit2 := Lib.iterAt_heap wr w.heap.size s pos (pos + K) hit
      have hbw2 := Lib.below_iterAt hbw (k := w.heap.size) (Nat.le_refl _) s (pos + K)
      obtain ⟨W, hWd⟩ : ∃ W, wr.iterAt w.heap.size s (pos + K) = W := ⟨_, rfl⟩
      rw [hWd] at hnx hit2 hbw2
      clear hWd hit hbw HV HT hR hK hne
      obtain ⟨L, hL⟩ : ∃ L, (s.data.toList.drop pos).take 3 = L := ⟨_, rfl⟩
      rw [hL] at h3 hbi hlen
      clear hL
      have goOn : ¬ (R = 65533 ∧ K = 1) → Hid (Lib.validD (s.data.toList.drop (pos + K)) = T) := fun h => by
        show _ = _
        rw [← hv, if_neg h]
      have stop : R = 65533 → K = 1 → T = false := fun a b => by rw [← hv, if_pos ⟨a, b⟩]
      have GO : Hid (¬ (R = 65533 ∧ K = 1) → Hid (Lib.validD (s.data.toList.drop (pos + K)) = T)) := goOn
      clear hv goOn
      by_cases hr : R = 65533
      · subst hr
        have hb := hbi rfl
        clear hbi
        by_cases hl3 : s.size < pos + 3
        · have hT : T = false := stop rfl (hb.2 (fun e => by rw [e] at hlen; simp at hlen; omega))
          subst hT
          have hgt : (s.size : Int) < (pos : Int) + 3 := by omega
          clear stop hb h3 hlen hl3 GO
          go_wp2
          go_ret
          exact ⟨rfl, hbw2⟩
        · have hgt : ¬ (s.size : Int) < (pos : Int) + 3 := by omega
          have hsl : ∀ W, (Instr.slice 9 (.string s) (some (.int .i64 (pos : Int))) (some (.int .i64 ((pos : Int) + 3))) none).run Tryz.prog W = .ok (.string (s.extract pos (pos + 3))) W := fun W => by
            rw [run_slice_string (P := Tryz.prog) W 9 s .i64 .i64 (pos : Int) ((pos : Int) + 3) Tryz.underlying9 (by omega) (by omega) (by omega)]
            rw [Int.toNat_natCast, show ((pos : Int) + 3).toNat = pos + 3 by omega]
          by_cases he : L = [239, 191, 189]
          · have hK : ¬ K = 1 := fun e => (hb.1 e) he
            have HV2 := GO.out (fun e => hK e.2)
            have hx : (s.extract pos (pos + 3)).toList = [239, 191, 189] := by rw [h3, he]
            clear GO hb stop h3 hlen he hK
            go_wp2
            go_roundg g'
            case measure => omega
            case rel => exact ⟨pos + K, hit2, hbw2, HV2, by omega⟩
          · have hT : T = false := stop rfl (hb.2 he)
            subst hT
            have hx : ((s.extract pos (pos + 3)).toList == [239, 191, 189]) = false := by rw [h3]; exact beq_eq_false_iff_ne.2 he
            clear GO hb stop h3 hlen he
            go_wp2
            go_ret
            exact ⟨rfl, hbw2⟩
      · have hr2 : ((R : Int) == 65533) = false := beq_eq_false_iff_ne.2 (by omega)
        have HV2 := GO.out (fun e => hr e.1)
        clear GO hbi stop h3 hlen hr
        go_wp2
        go_roundg g'
        case measure => omega
        case rel => exact ⟨pos + K, hit2, hbw2, HV2, by omega⟩
    · have hnx : ∀ ty, (Instr.next (.pointer (some ⟨w.heap.size, 0, none⟩)) true ty).run Tryz.prog wr = _ := fun ty => Lib.run_next_end_at wr w.heap.size s pos ty hit hps
      have hT : T = true := by
        have := HV.out
        rw [List.drop_of_length_le (by rw [← Lib.size_eq]; omega), Lib.validD_nil] at this
        exact this.symm
      subst hT
      clear HV HT
      go_wp2
      go_ret
      exact ⟨rfl, hbw⟩
theorem utf_any (s : ByteArray) (w : World) (hs : s.size ≤ 1048576) :
    Calls Tryz.prog 23 #[.string s] w fun e w' => e = .returned (.bool (Lib.validD s.data.toList)) ∧ Below w.heap.size w w' :=
  utf_core s w hs _ (by show _ = _; rfl)
end Go.Proofs.YtnmmojhbcnlboaaGreatDoor.Rf
/- What the reference's Name, Cut and col answer: what isName and isColumn do. -/
namespace Go.Proofs.YtnmmojhbcnlboaaGreatDoor.Rf
open Go.Shelf Go.RowKit Go.Lib Go.Sort
set_option linter.unusedVariables false
set_option linter.unusedSimpArgs false
attribute [local go_sem ↓] Go.wp_at_zero Go.wp_at_succ
def nullB : List UInt8 := [110, 117, 108, 108]
def trueB : List UInt8 := [116, 114, 117, 101]
def falseB : List UInt8 := [102, 97, 108, 115, 101]
theorem look_far : ∀ (L : List (List UInt8 × Nat)), (∀ x ∈ L, 4 ≤ x.2) → ∀ t, lookP L t = 0 ∨ 4 ≤ lookP L t
  | [], _, t => .inl rfl
  | x :: L, h, t => by
    unfold lookP
    split
    · exact .inr (h x (by simp))
    · exact look_far L (fun y hy => h y (by simp [hy])) t
theorem const_iff (l : List UInt8) : isConstP l = (decide (l = nullB) || (decide (l = trueB) || decide (l = falseB))) := by
  unfold isConstP
  have e : stepOfP l = if nullB = l then 1 else if trueB = l then 2 else if falseB = l then 3 else lookP (wordsP.drop 3) l := rfl
  rw [e]
  by_cases h1 : l = nullB
  · rw [if_pos h1.symm]; simp [h1]
  · rw [if_neg (fun h => h1 h.symm)]
    by_cases h2 : l = trueB
    · rw [if_pos h2.symm]; simp [h2]
    · rw [if_neg (fun h => h2 h.symm)]
      by_cases h3 : l = falseB
      · rw [if_pos h3.symm]; simp [h3]
      · rw [if_neg (fun h => h3 h.symm)]
        rw [decide_eq_false h1, decide_eq_false h2, decide_eq_false h3]
        rcases look_far (wordsP.drop 3) (by decide) l with h | h
        · rw [h]; rfl
        · rw [decide_eq_false (show ¬ lookP (wordsP.drop 3) l ≤ 3 by omega)]; simp
theorem let_cases (R : Int) (h0 : 0 ≤ R) : (97 ≤ R ∧ R ≤ 122) ∨ (65 ≤ R ∧ R ≤ 90) ∨ R = 95 ∨ 127 < R ∨ R < 48 ∨ (48 ≤ R ∧ R ≤ 57) ∨ (57 < R ∧ R < 65) ∨ (90 < R ∧ R < 95) ∨ R = 96 ∨ (122 < R ∧ R ≤ 127) := by omega
set_option maxRecDepth 100000 in
set_option maxHeartbeats 8000000 in
theorem name_any (s : ByteArray) (w : World) : Calls Tryz.prog 31 #[.string s] w fun e w' => e = .returned (.bool (isNameP s.data.toList)) ∧ Below w.heap.size w w' := by
  have hsz : s.data.toList.length = s.size := by simp
  obtain ⟨N, hN⟩ : ∃ N, isNameP s.data.toList = N := ⟨_, rfl⟩
  have HN : Hid ((if s.data.toList = [] then false else if 64 < s.data.toList.length then false else if validD s.data.toList = false then false else if isConstP s.data.toList then false else nameL true (lets s.data.toList)) = N) := hN
  have HCI := hid (const_iff s.data.toList)
  rw [hN]
  clear hN
  by_cases h0 : s.data.toList = []
  · have ta : (s.toList == []) = true := by rw [Lib.toList_data, h0]; rfl
    have tb : (s.toList == (⟨#[]⟩ : ByteArray).toList) = true := by rw [show (⟨#[]⟩ : ByteArray).toList = [] by rw [Lib.toList_data]]; exact ta
    have HE : Hid (N = false) := by have := HN.out; rw [if_pos h0] at this; exact this.symm
    clear h0 HN hsz HCI
    go_enter Tryz.func31, Tryz.ntmps31
    go_wp2_with fail
    go_ret
    exact ⟨by rw [HE.out]; rfl, Below.refl _ _⟩
  · have ta : (s.toList == []) = false := by rw [Lib.toList_data]; exact beq_eq_false_iff_ne.2 h0
    have tb : (s.toList == (⟨#[]⟩ : ByteArray).toList) = false := by rw [show (⟨#[]⟩ : ByteArray).toList = [] by rw [Lib.toList_data]]; exact ta
    by_cases h64 : 64 < s.size
    · have y1 : (64 : Int) < (s.size : Int) := by omega
      have y1d : decide (64 < s.size) = true := decide_eq_true h64
      have HE : Hid (N = false) := by have := HN.out; rw [if_neg h0, if_pos (by omega)] at this; exact this.symm
      clear h0 HN hsz HCI
      go_enter Tryz.func31, Tryz.ntmps31
      go_wp2_with fail
      go_ret
      exact ⟨by rw [HE.out]; rfl, Below.refl _ _⟩
    · have y1 : ¬ (64 : Int) < (s.size : Int) := by omega
      have y1d : decide (64 < s.size) = false := decide_eq_false h64
      have HN1 : Hid ((if validD s.data.toList = false then false else if isConstP s.data.toList then false else nameL true (lets s.data.toList)) = N) := by have := HN.out; rw [if_neg h0, if_neg (by omega)] at this; exact this
      by_cases c0 : s.data.toList = [110, 117, 108, 108]
      · have q0a : (s.toList == [110, 117, 108, 108]) = true := by rw [Lib.toList_data, c0]; rfl
        have q0b : (s.toList == (⟨#[110, 117, 108, 108]⟩ : ByteArray).toList) = true := by rw [show (⟨#[110, 117, 108, 108]⟩ : ByteArray).toList = [110, 117, 108, 108] by rw [Lib.toList_data]]; exact q0a
        have HE : Hid (N = false) := by
          have hc : isConstP s.data.toList = true := by rw [c0]; decide +kernel
          have := HN1.out
          rw [hc] at this
          show N = false
          split at this
          · exact this.symm
          · simpa using this.symm
        clear HN1 c0
        clear h0 HN hsz HCI
        go_enter Tryz.func31, Tryz.ntmps31
        go_wp2_with fail
        go_ret
        exact ⟨by rw [HE.out]; rfl, Below.refl _ _⟩
      · have q0a : (s.toList == [110, 117, 108, 108]) = false := by rw [Lib.toList_data]; exact beq_eq_false_iff_ne.2 c0
        have q0b : (s.toList == (⟨#[110, 117, 108, 108]⟩ : ByteArray).toList) = false := by rw [show (⟨#[110, 117, 108, 108]⟩ : ByteArray).toList = [110, 117, 108, 108] by rw [Lib.toList_data]]; exact q0a
        by_cases c1 : s.data.toList = [116, 114, 117, 101]
        · have q1a : (s.toList == [116, 114, 117, 101]) = true := by rw [Lib.toList_data, c1]; rfl
          have q1b : (s.toList == (⟨#[116, 114, 117, 101]⟩ : ByteArray).toList) = true := by rw [show (⟨#[116, 114, 117, 101]⟩ : ByteArray).toList = [116, 114, 117, 101] by rw [Lib.toList_data]]; exact q1a
          have HE : Hid (N = false) := by
            have hc : isConstP s.data.toList = true := by rw [c1]; decide +kernel
            have := HN1.out
            rw [hc] at this
            show N = false
            split at this
            · exact this.symm
            · simpa using this.symm
          clear HN1 c0 c1
          clear h0 HN hsz HCI
          go_enter Tryz.func31, Tryz.ntmps31
          go_wp2_with fail
          go_ret
          exact ⟨by rw [HE.out]; rfl, Below.refl _ _⟩
        · have q1a : (s.toList == [116, 114, 117, 101]) = false := by rw [Lib.toList_data]; exact beq_eq_false_iff_ne.2 c1
          have q1b : (s.toList == (⟨#[116, 114, 117, 101]⟩ : ByteArray).toList) = false := by rw [show (⟨#[116, 114, 117, 101]⟩ : ByteArray).toList = [116, 114, 117, 101] by rw [Lib.toList_data]]; exact q1a
          by_cases c2 : s.data.toList = [102, 97, 108, 115, 101]
          · have q2a : (s.toList == [102, 97, 108, 115, 101]) = true := by rw [Lib.toList_data, c2]; rfl
            have q2b : (s.toList == (⟨#[102, 97, 108, 115, 101]⟩ : ByteArray).toList) = true := by rw [show (⟨#[102, 97, 108, 115, 101]⟩ : ByteArray).toList = [102, 97, 108, 115, 101] by rw [Lib.toList_data]]; exact q2a
            have HE : Hid (N = false) := by
              have hc : isConstP s.data.toList = true := by rw [c2]; decide +kernel
              have := HN1.out
              rw [hc] at this
              show N = false
              split at this
              · exact this.symm
              · simpa using this.symm
            clear HN1 c0 c1 c2
            clear h0 HN hsz HCI
            go_enter Tryz.func31, Tryz.ntmps31
            go_wp2_with fail
            go_ret
            exact ⟨by rw [HE.out]; rfl, Below.refl _ _⟩
          · have q2a : (s.toList == [102, 97, 108, 115, 101]) = false := by rw [Lib.toList_data]; exact beq_eq_false_iff_ne.2 c2
            have q2b : (s.toList == (⟨#[102, 97, 108, 115, 101]⟩ : ByteArray).toList) = false := by rw [show (⟨#[102, 97, 108, 115, 101]⟩ : ByteArray).toList = [102, 97, 108, 115, 101] by rw [Lib.toList_data]]; exact q2a
            have hcf : isConstP s.data.toList = false := by rw [HCI.out]; show (decide (s.data.toList = [110, 117, 108, 108]) || (decide (s.data.toList = [116, 114, 117, 101]) || decide (s.data.toList = [102, 97, 108, 115, 101]))) = false; rw [decide_eq_false c0, decide_eq_false c1, decide_eq_false c2]; rfl
            obtain ⟨V, hV⟩ : ∃ V, validD s.data.toList = V := ⟨_, rfl⟩
            have C1 : Hid (Calls Tryz.prog 23 #[.string s] w fun e w' => e = .returned (.bool V) ∧ Below w.heap.size w w') := by have := utf_any s w (by omega); rw [hV] at this; exact this
            have HN2 : Hid ((if V = false then false else nameL true (lets s.data.toList)) = N) := by show _ = _; have := HN1.out; rw [hV, hcf] at this; rw [← this]; simp
            have HNN : Hid (s.data.toList ≠ []) := h0
            clear h0 HN HN1 hsz hV hcf HCI c0 c1 c2
            go_enter Tryz.func31, Tryz.ntmps31
            go_wp2_with fail
            refine C1.out.mono ?_
            rintro e w2 ⟨rfl, hb2⟩
            have HB2 := hid hb2
            clear C1 hb2
            cases V with
            | false =>
              have HE : Hid (N = false) := by have := HN2.out; rw [if_pos rfl] at this; exact this.symm
              clear HN2
              go_wp2_with fail
              go_ret
              exact ⟨by rw [HE.out]; rfl, HB2.out⟩
            | true =>
              have HN3 : Hid (nameL true (lets (s.data.toList.drop 0)) = N) := by show _ = _; have := HN2.out; simpa using this
              clear HN2
              go_wp2_with fail
              go_loopg [] s.size (fun gf wx => ∃ (pos : Nat) (f : Bool), wx.heap[w2.heap.size]? = some (.stringIter s pos) ∧ Hid (Below w.heap.size w wx) ∧ Hid (nameL f (lets (s.data.toList.drop pos)) = N) ∧ Hid (f = decide (pos = 0)) ∧ s.size ≤ pos + gf)
              case atStart => exact ⟨0, true, World.iter_heap w2 s 0, HB2.out.alloc HB2.out.size _, HN3, rfl, by omega⟩
              case round =>
                clear HN3
                obtain ⟨pos, f, hit, HBW, HS, HF, hb⟩ := hrel
                by_cases hp : pos < s.size
                · obtain ⟨g', rfl⟩ : ∃ g', gk = g' + 1 := ⟨gk - 1, by omega⟩
                  have hnx : ∀ ty, (Instr.next (.pointer (some ⟨w2.heap.size, 0, none⟩)) true ty).run Tryz.prog wr = _ := fun ty => Lib.run_next_any_at wr w2.heap.size s pos ty hit hp
                  have hne : s.data.toList.drop pos ≠ [] := by
                    intro e
                    have := congrArg List.length e
                    rw [List.length_drop, ← Lib.size_eq] at this
                    simp at this
                    omega
                  have hwd := Lib.width_pos s pos
                  have hS := HS.out
                  rw [lets_cons _ hne, List.drop_drop, Lib.decodeL_drop, nameL_cons] at hS
                  obtain ⟨R, hR⟩ : ∃ R, (Utf8.decode s pos).1 = R := ⟨_, rfl⟩
                  obtain ⟨K, hK⟩ : ∃ K, (Utf8.decode s pos).2 = K := ⟨_, rfl⟩
                  rw [hR, hK] at hnx hS
                  rw [hK] at hwd
                  have hit2 := Lib.iterAt_heap wr w2.heap.size s pos (pos + K) hit
                  have hbw2 := Lib.below_iterAt HBW.out (k := w2.heap.size) HB2.out.size s (pos + K)
                  obtain ⟨W1, hW1⟩ : ∃ W1, wr.iterAt w2.heap.size s (pos + K) = W1 := ⟨_, rfl⟩
                  rw [hW1] at hnx hit2 hbw2
                  have HW2 := hid hbw2
                  have HS2 : Hid ((if isLetP (R : Int) || (!f && isDigP (R : Int)) then nameL false (lets (s.data.toList.drop (pos + K))) else false) = N) := hS
                  have HZ : Hid (false = decide (pos + K = 0)) := (decide_eq_false (by omega)).symm
                  have hR0 : (0 : Int) ≤ (R : Int) := by omega
                  obtain ⟨Ri, hRi⟩ : ∃ Ri : Int, (R : Int) = Ri := ⟨_, rfl⟩
                  rw [hRi] at hnx HS2 hR0
                  have hlc := let_cases Ri hR0
                  clear hW1 hit hbw2 hS hR hK hne HS HBW hRi hR0
                  rcases hlc with h | h | h | h | h | h | h | h | h | h
                  · have g97 : (97 : Int) ≤ Ri := by omega
                    have g65 : (65 : Int) ≤ Ri := by omega
                    have l122 : Ri ≤ 122 := by omega
                    have l90 : ¬ Ri ≤ 90 := by omega
                    have e95 : (Ri == 95) = false := beq_eq_false_iff_ne.2 (by omega)
                    have g127 : ¬ (127 : Int) < Ri := by omega
                    have l48 : ¬ Ri < 48 := by omega
                    have g57 : (57 : Int) < Ri := by omega
                    have hl : isLetP Ri = true := by unfold isLetP; simp; omega
                    have HS4 : Hid (nameL false (lets (s.data.toList.drop (pos + K))) = N) := by show _ = _; have := HS2.out; rw [hl] at this; simpa using this
                    clear hl h HF
                    clear HS2
                    go_wp2_with fail
                    go_roundg g'
                    case measure => omega
                    case rel => exact ⟨pos + K, false, hit2, HW2, HS4, HZ, by omega⟩
                  · have g97 : ¬ (97 : Int) ≤ Ri := by omega
                    have g65 : (65 : Int) ≤ Ri := by omega
                    have l122 : Ri ≤ 122 := by omega
                    have l90 : Ri ≤ 90 := by omega
                    have e95 : (Ri == 95) = false := beq_eq_false_iff_ne.2 (by omega)
                    have g127 : ¬ (127 : Int) < Ri := by omega
                    have l48 : ¬ Ri < 48 := by omega
                    have g57 : (57 : Int) < Ri := by omega
                    have hl : isLetP Ri = true := by unfold isLetP; simp; omega
                    have HS4 : Hid (nameL false (lets (s.data.toList.drop (pos + K))) = N) := by show _ = _; have := HS2.out; rw [hl] at this; simpa using this
                    clear hl h HF
                    clear HS2
                    go_wp2_with fail
                    go_roundg g'
                    case measure => omega
                    case rel => exact ⟨pos + K, false, hit2, HW2, HS4, HZ, by omega⟩
                  · have g97 : ¬ (97 : Int) ≤ Ri := by omega
                    have g65 : (65 : Int) ≤ Ri := by omega
                    have l122 : Ri ≤ 122 := by omega
                    have l90 : ¬ Ri ≤ 90 := by omega
                    have e95 : (Ri == 95) = true := by simp; omega
                    have g127 : ¬ (127 : Int) < Ri := by omega
                    have l48 : ¬ Ri < 48 := by omega
                    have g57 : (57 : Int) < Ri := by omega
                    have hl : isLetP Ri = true := by unfold isLetP; simp; omega
                    have HS4 : Hid (nameL false (lets (s.data.toList.drop (pos + K))) = N) := by show _ = _; have := HS2.out; rw [hl] at this; simpa using this
                    clear hl h HF
                    clear HS2
                    go_wp2_with fail
                    go_roundg g'
                    case measure => omega
                    case rel => exact ⟨pos + K, false, hit2, HW2, HS4, HZ, by omega⟩
                  · have g97 : (97 : Int) ≤ Ri := by omega
                    have g65 : (65 : Int) ≤ Ri := by omega
                    have l122 : ¬ Ri ≤ 122 := by omega
                    have l90 : ¬ Ri ≤ 90 := by omega
                    have e95 : (Ri == 95) = false := beq_eq_false_iff_ne.2 (by omega)
                    have g127 : (127 : Int) < Ri := by omega
                    have l48 : ¬ Ri < 48 := by omega
                    have g57 : (57 : Int) < Ri := by omega
                    have hl : isLetP Ri = true := by unfold isLetP; simp; omega
                    have HS4 : Hid (nameL false (lets (s.data.toList.drop (pos + K))) = N) := by show _ = _; have := HS2.out; rw [hl] at this; simpa using this
                    clear hl h HF
                    clear HS2
                    go_wp2_with fail
                    go_roundg g'
                    case measure => omega
                    case rel => exact ⟨pos + K, false, hit2, HW2, HS4, HZ, by omega⟩
                  · have g97 : ¬ (97 : Int) ≤ Ri := by omega
                    have g65 : ¬ (65 : Int) ≤ Ri := by omega
                    have l122 : Ri ≤ 122 := by omega
                    have l90 : Ri ≤ 90 := by omega
                    have e95 : (Ri == 95) = false := beq_eq_false_iff_ne.2 (by omega)
                    have g127 : ¬ (127 : Int) < Ri := by omega
                    have l48 : Ri < 48 := by omega
                    have g57 : ¬ (57 : Int) < Ri := by omega
                    have hl : isLetP Ri = false := by unfold isLetP; simp; omega
                    have hd : isDigP Ri = false := by unfold isDigP; simp; omega
                    by_cases hp0 : pos = 0
                    · have zp : ((pos : Int) == 0) = true := by simp; omega
                      have HE : Hid (N = false) := by
                        show _ = _
                        have h1 := HF.out
                        rw [decide_eq_true hp0] at h1
                        have := HS2.out
                        rw [h1, hl] at this
                        simpa using this.symm
                      clear HS2 hl hd h HF hp0
                      go_wp2_with fail
                      go_ret
                      exact ⟨by rw [HE.out]; rfl, HW2.out⟩
                    · have zp : ((pos : Int) == 0) = false := beq_eq_false_iff_ne.2 (by omega)
                      have HFF : Hid (f = false) := by show _ = _; rw [HF.out]; exact decide_eq_false hp0
                      have HE : Hid (N = false) := by show _ = _; have := HS2.out; rw [hl, hd] at this; simpa using this.symm
                      clear HS2 hl hd h HF hp0 HFF
                      go_wp2_with fail
                      go_ret
                      exact ⟨by rw [HE.out]; rfl, HW2.out⟩
                  · have g97 : ¬ (97 : Int) ≤ Ri := by omega
                    have g65 : ¬ (65 : Int) ≤ Ri := by omega
                    have l122 : Ri ≤ 122 := by omega
                    have l90 : Ri ≤ 90 := by omega
                    have e95 : (Ri == 95) = false := beq_eq_false_iff_ne.2 (by omega)
                    have g127 : ¬ (127 : Int) < Ri := by omega
                    have l48 : ¬ Ri < 48 := by omega
                    have g57 : ¬ (57 : Int) < Ri := by omega
                    have hl : isLetP Ri = false := by unfold isLetP; simp; omega
                    have hd : isDigP Ri = true := by unfold isDigP; simp; omega
                    by_cases hp0 : pos = 0
                    · have zp : ((pos : Int) == 0) = true := by simp; omega
                      have HE : Hid (N = false) := by
                        show _ = _
                        have h1 := HF.out
                        rw [decide_eq_true hp0] at h1
                        have := HS2.out
                        rw [h1, hl] at this
                        simpa using this.symm
                      clear HS2 hl hd h HF hp0
                      go_wp2_with fail
                      go_ret
                      exact ⟨by rw [HE.out]; rfl, HW2.out⟩
                    · have zp : ((pos : Int) == 0) = false := beq_eq_false_iff_ne.2 (by omega)
                      have HFF : Hid (f = false) := by show _ = _; rw [HF.out]; exact decide_eq_false hp0
                      have HS4 : Hid (nameL false (lets (s.data.toList.drop (pos + K))) = N) := by show _ = _; have := HS2.out; rw [hl, hd, HFF.out] at this; simpa using this
                      clear hl hd h HF hp0 HFF
                      clear HS2
                      go_wp2_with fail
                      go_roundg g'
                      case measure => omega
                      case rel => exact ⟨pos + K, false, hit2, HW2, HS4, HZ, by omega⟩
                  · have g97 : ¬ (97 : Int) ≤ Ri := by omega
                    have g65 : ¬ (65 : Int) ≤ Ri := by omega
                    have l122 : Ri ≤ 122 := by omega
                    have l90 : Ri ≤ 90 := by omega
                    have e95 : (Ri == 95) = false := beq_eq_false_iff_ne.2 (by omega)
                    have g127 : ¬ (127 : Int) < Ri := by omega
                    have l48 : ¬ Ri < 48 := by omega
                    have g57 : (57 : Int) < Ri := by omega
                    have hl : isLetP Ri = false := by unfold isLetP; simp; omega
                    have hd : isDigP Ri = false := by unfold isDigP; simp; omega
                    by_cases hp0 : pos = 0
                    · have zp : ((pos : Int) == 0) = true := by simp; omega
                      have HE : Hid (N = false) := by
                        show _ = _
                        have h1 := HF.out
                        rw [decide_eq_true hp0] at h1
                        have := HS2.out
                        rw [h1, hl] at this
                        simpa using this.symm
                      clear HS2 hl hd h HF hp0
                      go_wp2_with fail
                      go_ret
                      exact ⟨by rw [HE.out]; rfl, HW2.out⟩
                    · have zp : ((pos : Int) == 0) = false := beq_eq_false_iff_ne.2 (by omega)
                      have HFF : Hid (f = false) := by show _ = _; rw [HF.out]; exact decide_eq_false hp0
                      have HE : Hid (N = false) := by show _ = _; have := HS2.out; rw [hl, hd] at this; simpa using this.symm
                      clear HS2 hl hd h HF hp0 HFF
                      go_wp2_with fail
                      go_ret
                      exact ⟨by rw [HE.out]; rfl, HW2.out⟩
                  · have g97 : ¬ (97 : Int) ≤ Ri := by omega
                    have g65 : (65 : Int) ≤ Ri := by omega
                    have l122 : Ri ≤ 122 := by omega
                    have l90 : ¬ Ri ≤ 90 := by omega
                    have e95 : (Ri == 95) = false := beq_eq_false_iff_ne.2 (by omega)
                    have g127 : ¬ (127 : Int) < Ri := by omega
                    have l48 : ¬ Ri < 48 := by omega
                    have g57 : (57 : Int) < Ri := by omega
                    have hl : isLetP Ri = false := by unfold isLetP; simp; omega
                    have hd : isDigP Ri = false := by unfold isDigP; simp; omega
                    by_cases hp0 : pos = 0
                    · have zp : ((pos : Int) == 0) = true := by simp; omega
                      have HE : Hid (N = false) := by
                        show _ = _
                        have h1 := HF.out
                        rw [decide_eq_true hp0] at h1
                        have := HS2.out
                        rw [h1, hl] at this
                        simpa using this.symm
                      clear HS2 hl hd h HF hp0
                      go_wp2_with fail
                      go_ret
                      exact ⟨by rw [HE.out]; rfl, HW2.out⟩
                    · have zp : ((pos : Int) == 0) = false := beq_eq_false_iff_ne.2 (by omega)
                      have HFF : Hid (f = false) := by show _ = _; rw [HF.out]; exact decide_eq_false hp0
                      have HE : Hid (N = false) := by show _ = _; have := HS2.out; rw [hl, hd] at this; simpa using this.symm
                      clear HS2 hl hd h HF hp0 HFF
                      go_wp2_with fail
                      go_ret
                      exact ⟨by rw [HE.out]; rfl, HW2.out⟩
                  · have g97 : ¬ (97 : Int) ≤ Ri := by omega
                    have g65 : (65 : Int) ≤ Ri := by omega
                    have l122 : Ri ≤ 122 := by omega
                    have l90 : ¬ Ri ≤ 90 := by omega
                    have e95 : (Ri == 95) = false := beq_eq_false_iff_ne.2 (by omega)
                    have g127 : ¬ (127 : Int) < Ri := by omega
                    have l48 : ¬ Ri < 48 := by omega
                    have g57 : (57 : Int) < Ri := by omega
                    have hl : isLetP Ri = false := by unfold isLetP; simp; omega
                    have hd : isDigP Ri = false := by unfold isDigP; simp; omega
                    by_cases hp0 : pos = 0
                    · have zp : ((pos : Int) == 0) = true := by simp; omega
                      have HE : Hid (N = false) := by
                        show _ = _
                        have h1 := HF.out
                        rw [decide_eq_true hp0] at h1
                        have := HS2.out
                        rw [h1, hl] at this
                        simpa using this.symm
                      clear HS2 hl hd h HF hp0
                      go_wp2_with fail
                      go_ret
                      exact ⟨by rw [HE.out]; rfl, HW2.out⟩
                    · have zp : ((pos : Int) == 0) = false := beq_eq_false_iff_ne.2 (by omega)
                      have HFF : Hid (f = false) := by show _ = _; rw [HF.out]; exact decide_eq_false hp0
                      have HE : Hid (N = false) := by show _ = _; have := HS2.out; rw [hl, hd] at this; simpa using this.symm
                      clear HS2 hl hd h HF hp0 HFF
                      go_wp2_with fail
                      go_ret
                      exact ⟨by rw [HE.out]; rfl, HW2.out⟩
                  · have g97 : (97 : Int) ≤ Ri := by omega
                    have g65 : (65 : Int) ≤ Ri := by omega
                    have l122 : ¬ Ri ≤ 122 := by omega
                    have l90 : ¬ Ri ≤ 90 := by omega
                    have e95 : (Ri == 95) = false := beq_eq_false_iff_ne.2 (by omega)
                    have g127 : ¬ (127 : Int) < Ri := by omega
                    have l48 : ¬ Ri < 48 := by omega
                    have g57 : (57 : Int) < Ri := by omega
                    have hl : isLetP Ri = false := by unfold isLetP; simp; omega
                    have hd : isDigP Ri = false := by unfold isDigP; simp; omega
                    by_cases hp0 : pos = 0
                    · have zp : ((pos : Int) == 0) = true := by simp; omega
                      have HE : Hid (N = false) := by
                        show _ = _
                        have h1 := HF.out
                        rw [decide_eq_true hp0] at h1
                        have := HS2.out
                        rw [h1, hl] at this
                        simpa using this.symm
                      clear HS2 hl hd h HF hp0
                      go_wp2_with fail
                      go_ret
                      exact ⟨by rw [HE.out]; rfl, HW2.out⟩
                    · have zp : ((pos : Int) == 0) = false := beq_eq_false_iff_ne.2 (by omega)
                      have HFF : Hid (f = false) := by show _ = _; rw [HF.out]; exact decide_eq_false hp0
                      have HE : Hid (N = false) := by show _ = _; have := HS2.out; rw [hl, hd] at this; simpa using this.symm
                      clear HS2 hl hd h HF hp0 HFF
                      go_wp2_with fail
                      go_ret
                      exact ⟨by rw [HE.out]; rfl, HW2.out⟩
                · have hnx : ∀ ty, (Instr.next (.pointer (some ⟨w2.heap.size, 0, none⟩)) true ty).run Tryz.prog wr = _ := fun ty => Lib.run_next_end_at wr w2.heap.size s pos ty hit (by omega)
                  have HE : Hid (N = true) := by
                    have := HS.out
                    rw [List.drop_of_length_le (by rw [← Lib.size_eq]; omega), lets_nil] at this
                    exact this.symm
                  clear HS
                  go_wp2_with fail
                  go_ret
                  exact ⟨by rw [HE.out]; rfl, HBW.out⟩
end Go.Proofs.YtnmmojhbcnlboaaGreatDoor.Rf
/- What the reference's Cut and col answer. -/
namespace Go.Proofs.YtnmmojhbcnlboaaGreatDoor.Rf
open Go.Shelf Go.RowKit Go.Lib Go.Sort
set_option linter.unusedVariables false
set_option linter.unusedSimpArgs false
attribute [local go_sem ↓] Go.wp_at_zero Go.wp_at_succ
theorem first_at (l : List UInt8) (i : Nat) (h : l[i]? = some 46) (hf : ∀ k, k < i → l[k]? ≠ some 46) : Lib.index l [46] = (i : Int) := by
  rw [Lib.index_one]
  by_cases hn : Lib.indexByte l 46 = -1
  · exact absurd h (Lib.indexByte_none hn i)
  · have hge := Lib.indexByte_ge l 46
    obtain ⟨o, ho⟩ : ∃ o : Nat, Lib.indexByte l 46 = o := ⟨(Lib.indexByte l 46).toNat, by omega⟩
    obtain ⟨h1, h2⟩ := Lib.indexByte_some ho
    rw [ho]
    by_cases h3 : o < i
    · exact absurd h1 (hf o h3)
    · by_cases h4 : i < o
      · exact absurd h (h2 i h4)
      · omega
theorem none_at (l : List UInt8) (hf : ∀ k, k < l.length → l[k]? ≠ some 46) : Lib.index l [46] = -1 := by
  rw [Lib.index_one]
  by_cases hn : Lib.indexByte l 46 = -1
  · exact hn
  · have hge := Lib.indexByte_ge l 46
    obtain ⟨o, ho⟩ : ∃ o : Nat, Lib.indexByte l 46 = o := ⟨(Lib.indexByte l 46).toNat, by omega⟩
    obtain ⟨h1, h2⟩ := Lib.indexByte_some ho
    exact absurd h1 (hf o (List.getElem?_eq_some_iff.1 h1).1)
/-- The parts of a column's text, as the reference tells them. -/
def cutRP (l : List UInt8) : List UInt8 × List UInt8 := if (Lib.cut l [46]).2.2 then ((Lib.cut l [46]).1, (Lib.cut l [46]).2.1) else ([], l)
set_option maxRecDepth 100000 in
set_option maxHeartbeats 4000000 in
theorem cutR_any (s : ByteArray) (w : World) (hs : s.size ≤ 9223372036854775806) : Calls Tryz.prog 38 #[.string s] w fun e w' => e = .returned (.tuple #[.string ⟨(cutRP s.data.toList).1.toArray⟩, .string ⟨(cutRP s.data.toList).2.toArray⟩]) ∧ ∃ n, w' = w.drewN n := by
  have hsz : s.data.toList.length = s.size := by simp
  obtain ⟨A, hA⟩ : ∃ A : ByteArray, (⟨(cutRP s.data.toList).1.toArray⟩ : ByteArray) = A := ⟨_, rfl⟩
  obtain ⟨B, hB⟩ : ∃ A : ByteArray, (⟨(cutRP s.data.toList).2.toArray⟩ : ByteArray) = A := ⟨_, rfl⟩
  have HAB : Hid ((⟨(cutRP s.data.toList).1.toArray⟩ : ByteArray) = A ∧ (⟨(cutRP s.data.toList).2.toArray⟩ : ByteArray) = B) := ⟨hA, hB⟩
  rw [hA, hB]
  clear hA hB
  go_enter Tryz.func38, Tryz.ntmps38
  go_wp2_with fail
  go_loopg [4] s.size (fun gf s4 wx => ∃ (i : Nat), s4 = .int .i64 i ∧ wx = w ∧ i ≤ s.size ∧ s.size ≤ i + gf ∧ Hid (∀ k, k < i → s.data.toList[k]? ≠ some 46))
  case atStart => exact ⟨0, rfl, rfl, by omega, by omega, fun k hk => by omega⟩
  case round =>
    obtain ⟨i, rfl, hw, hi1, hgf, HF⟩ := hrel
    have hw2 := hw.symm
    subst hw2
    by_cases hi : i < s.size
    · obtain ⟨g', rfl⟩ : ∃ g', gk = g' + 1 := ⟨gk - 1, by omega⟩
      have z0 : (0 : Int) ≤ (i : Int) := by omega
      have z1 : (i : Int) < (s.size : Int) := by omega
      have zs : (s.size : Int) ≤ 9223372036854775806 := by omega
      have hget : s.data.toList[i]? = some s[i] := by
        rw [List.getElem?_eq_getElem (by rw [hsz]; exact hi)]
        rfl
      by_cases hb : s[i] = 46
      · have y46 : ((s[i].toNat : Int) == 46) = true := by rw [hb]; rfl
        have hix : Lib.index s.data.toList [46] = (i : Int) := first_at _ i (by rw [hget, hb]) HF.out
        obtain ⟨e1, e2, e3⟩ := Lib.cutB_hit s ⟨#[46]⟩ i hix
        have hA : A = s.extract 0 i := by rw [← HAB.out.1, ← e1]; unfold cutRP; rw [if_pos e3]
        have hB : B = s.extract (i + 1) s.size := by
          rw [← HAB.out.2]
          unfold cutRP
          rw [if_pos e3]
          exact e2
        have c2 : (i : Int) ≤ (s.size : Int) := by omega
        have c3 : (0 : Int) ≤ (i : Int) + 1 := by omega
        have c4 : (i : Int) + 1 ≤ (s.size : Int) := by omega
        have mixed : Tryz.prog.follows .mixedOrders = true := by kernel_rfl
        obtain ⟨m, hm⟩ : ∃ m : Int, (i : Int) + 1 = m := ⟨_, rfl⟩
        have hmt : m.toNat = i + 1 := by omega
        rw [show i + 1 = m.toNat from hmt.symm] at hB
        subst hA hB
        clear HAB e1 e2 e3 hix hget HF
        go_wp2_with fail
        go_region_o
        go_wp2
        go_ret2
        refine ⟨?_, 1, rfl⟩
        simp [hmt, ← hm]
      · have y46 : ((s[i].toNat : Int) == 46) = false := by
          refine beq_eq_false_iff_ne.2 fun e => hb ?_
          have : s[i].toNat = 46 := by omega
          exact UInt8.toNat_inj.1 this
        have HF2 : Hid (∀ k, k < i + 1 → s.data.toList[k]? ≠ some 46) := fun k hk => by
          by_cases hki : k = i
          · subst hki
            rw [hget]
            intro e
            exact hb (Option.some.inj e)
          · exact HF.out k (by omega)
        clear hget HF hb
        go_wp2_with fail
        go_roundg g'
        case measure => omega
        case rel => exact ⟨i + 1, by go_num, rfl, by omega, by omega, HF2⟩
    · have z1 : ¬ (i : Int) < (s.size : Int) := by omega
      have hix : Lib.index s.data.toList [46] = -1 := none_at _ fun k hk => HF.out k (by omega)
      obtain ⟨e1, e2, e3⟩ := Lib.cutB_miss s ⟨#[46]⟩ hix
      have hA : A = ⟨#[]⟩ := by rw [← HAB.out.1]; unfold cutRP; rw [if_neg (by rw [show (Lib.cut s.data.toList [46]).2.2 = false from e3]; simp)]
      have hB : B = s := by rw [← HAB.out.2]; unfold cutRP; rw [if_neg (by rw [show (Lib.cut s.data.toList [46]).2.2 = false from e3]; simp)]
      subst hA hB
      clear HAB e1 e2 e3 hix HF
      go_wp2_with fail
      go_ret2
      exact ⟨rfl, 0, rfl⟩
/-- Whether a text is a column's: as isColumn tells. -/
theorem col_eq (l : List UInt8) : isColP l = (isNameP (cutRP l).2 && (decide ((cutRP l).2.length = l.length) || isNameP (cutRP l).1)) := by
  unfold isColP cutRP
  rcases cut_dot l with e | ⟨a, b, rfl, e⟩
  · rw [e]; simp
  · rw [e]
    simp only [if_true]
    rw [decide_eq_false (show ¬ b.length = (a ++ 46 :: b).length by simp; omega)]
    cases isNameP a <;> cases isNameP b <;> rfl
set_option maxRecDepth 100000 in
set_option maxHeartbeats 4000000 in
theorem colR_any (s : ByteArray) (w : World) (hs : s.size ≤ 9223372036854775806) : Calls Tryz.prog 24 #[.string s] w fun e w' => e = .returned (.bool (isColP s.data.toList)) ∧ Below w.heap.size w w' := by
  have hsz : s.data.toList.length = s.size := by simp
  have C1 := hid (cutR_any s w hs)
  obtain ⟨a, b, hab⟩ : ∃ a b, cutRP s.data.toList = (a, b) := ⟨_, _, rfl⟩
  obtain ⟨A, hA⟩ : ∃ A : ByteArray, (⟨a.toArray⟩ : ByteArray) = A := ⟨_, rfl⟩
  obtain ⟨B, hB⟩ : ∃ B : ByteArray, (⟨b.toArray⟩ : ByteArray) = B := ⟨_, rfl⟩
  have hAl : A.data.toList = a := by rw [← hA]
  have hBl : B.data.toList = b := by rw [← hB]
  have hBs : b.length = B.size := by rw [← hBl]; simp
  obtain ⟨X, hX⟩ : ∃ X, isNameP a = X := ⟨_, rfl⟩
  obtain ⟨Y, hY⟩ : ∃ Y, isNameP b = Y := ⟨_, rfl⟩
  obtain ⟨R, hR⟩ : ∃ R, isColP s.data.toList = R := ⟨_, rfl⟩
  have HR : Hid ((Y && (decide (B.size = s.size) || X)) = R) := by
    show _ = _
    rw [← hR, col_eq, hab, hX, hY, hBs, hsz]
  have CX : Hid (∀ V, Calls Tryz.prog 31 #[.string A] V fun e w' => e = .returned (.bool X) ∧ Below V.heap.size V w') := fun V => by have := name_any A V; rw [hAl, hX] at this; exact this
  have CY : Hid (∀ V, Calls Tryz.prog 31 #[.string B] V fun e w' => e = .returned (.bool Y) ∧ Below V.heap.size V w') := fun V => by have := name_any B V; rw [hBl, hY] at this; exact this
  rw [hab, hA, hB] at C1
  rw [hR]
  clear hs hab hA hB hAl hBl hBs hX hY hR hsz
  go_enter Tryz.func24, Tryz.ntmps24
  go_wp2_with fail
  refine C1.out.mono ?_
  rintro e w1 ⟨rfl, n, hw1⟩
  have HB1 : Hid (Below w.heap.size w w1) := by show Below _ _ _; rw [hw1]; exact below_drewN (Below.refl _ _) n
  clear C1 hw1
  go_wp2_with fail
  refine (CY.out _).mono ?_
  rintro e w2 ⟨rfl, hb2⟩
  have HB2 : Hid (Below w.heap.size w w2) := HB1.out.trans (hb2.mono HB1.out.size)
  clear hb2 HB1
  cases Y with
  | false =>
    have HE : Hid (R = false) := HR.out.symm
    clear HR
    go_wp2_with fail
    go_ret
    exact ⟨by rw [HE.out]; rfl, HB2.out⟩
  | true =>
    by_cases hl : B.size = s.size
    · have y : ((B.size : Int) == (s.size : Int)) = true := by simp [hl]
      have y2 : (B.size == s.size) = true := by simp [hl]
      have HE : Hid (R = true) := by show _ = _; rw [← HR.out, decide_eq_true hl]; rfl
      clear HR hl
      go_wp2_with fail
      go_ret
      exact ⟨by rw [HE.out]; rfl, HB2.out⟩
    · have y : ((B.size : Int) == (s.size : Int)) = false := beq_eq_false_iff_ne.2 (by omega)
      have y2 : (B.size == s.size) = false := beq_eq_false_iff_ne.2 hl
      have HE : Hid (R = X) := by show _ = _; rw [← HR.out, decide_eq_false hl]; simp
      clear HR hl
      go_wp2_with fail
      refine (CX.out _).mono ?_
      rintro e w3 ⟨rfl, hb3⟩
      have HB3 : Hid (Below w.heap.size w w3) := HB2.out.trans (hb3.mono HB2.out.size)
      clear hb3
      go_wp2_with fail
      go_ret
      exact ⟨by rw [HE.out]; rfl, HB3.out⟩
end Go.Proofs.YtnmmojhbcnlboaaGreatDoor.Rf
/- What the reference's Takes and Right answer: what Takes and Right do. -/
namespace Go.Proofs.YtnmmojhbcnlboaaGreatDoor.Rf
open Go.Shelf Go.RowKit Go.Lib Go.Sort
set_option linter.unusedVariables false
set_option linter.unusedSimpArgs false
attribute [local go_sem ↓] Go.wp_at_zero Go.wp_at_succ
set_option maxRecDepth 100000 in
set_option maxHeartbeats 8000000 in
theorem takesR_any (x : Stp) (w : World) (hk : okW x) : Calls Tryz.prog 9 #[x.v] w fun e w' => e = .returned (.tuple #[.int .i64 ((takesP x).1 : Int), .bool (takesP x).2]) ∧ Below w.heap.size w w' := by
  obtain ⟨s, hs⟩ : ∃ s : ByteArray, (⟨x.t.toArray⟩ : ByteArray) = s := ⟨_, rfl⟩
  have HST : Hid (s.data.toList = x.t) := by show _ = _; rw [← hs]
  have hv : x.v = .agg #[.int .u8 (x.k : Int), .string s, .int .i64 x.n] := by rw [← hs]; rfl
  have HSZ : Hid (s.size ≤ 140737488355328 ∧ s.size = x.t.length) := by
    have h1 : s.data.toList.length = s.size := by simp
    have h2 := HST.out
    rw [h2] at h1
    have h3 := hk.2.2
    exact ⟨by omega, h1.symm⟩
  rw [hv]
  obtain ⟨W0, hW0⟩ : ∃ W0, w.alloc (.cells #[.int .u8 (x.k : Int), .string s, .int .i64 x.n] 29) = W0 := ⟨_, rfl⟩
  have hb0 : Below w.heap.size w W0 := by rw [← hW0]; exact below_alloc _ _
  have hg0 : W0.heap[w.heap.size]? = some (.cells #[.int .u8 (x.k : Int), .string s, .int .i64 x.n] 29 (0, 0)) := by rw [← hW0]; exact heap_alloc_new w _
  have c0 := cell_of_row (k := 0) (v := .int .u8 (x.k : Int)) hg0 rfl
  have c1 := cell_of_row (k := 1) (v := .string s) hg0 rfl
  have c2 := cell_of_row (k := 2) (v := .int .i64 x.n) hg0 rfl
  have HB := hid hb0
  obtain ⟨k, hkk⟩ : ∃ k, x.k = k := ⟨_, rfl⟩
  obtain ⟨n, hnn⟩ : ∃ n, x.n = n := ⟨_, rfl⟩
  obtain ⟨r, hr⟩ : ∃ r, takesP x = r := ⟨_, rfl⟩
  have hk256 : k < 256 := by rw [← hkk]; exact hk.1
  have HR : Hid (r = if (if k = 0 ∨ 22 ≤ k then false else if k = 4 then decide (x.t = []) else if k = 5 then decide (n = 0) && (decide (x.t.length ≤ 256) && validD x.t) else if k = 6 then decide (n = 0) && isColP x.t else decide (n = 0) && decide (x.t = [])) then (takesN k, true) else (0, false)) := by show _ = _; rw [← hr, ← hkk, ← hnn]; rfl
  rw [hr]
  rw [hkk, hnn] at hW0 ⊢
  rw [hkk] at c0
  rw [hnn] at c2
  clear hs hv hk hb0 hg0 hkk hnn hr
  by_cases h0 : k = 0
  · have z1 : (k : Int) < 1 := by omega
    have HE : Hid (r = (0, false)) := by show _ = _; rw [HR.out]; simp [h0]
    clear HR HST HSZ h0
    go_enter Tryz.func9, Tryz.ntmps9
    go_wp2_with fail
    go_ret2
    exact ⟨by rw [HE.out]; rfl, HB.out⟩
  · have z1 : ¬ (k : Int) < 1 := by omega
    by_cases h22 : 22 ≤ k
    · have y22 : (22 : Int) ≤ (k : Int) := by omega
      have HE : Hid (r = (0, false)) := by show _ = _; rw [HR.out]; simp [h22]
      clear HR HST HSZ h0 h22
      go_enter Tryz.func9, Tryz.ntmps9
      go_wp2_with fail
      go_ret2
      exact ⟨by rw [HE.out]; rfl, HB.out⟩
    · have y22 : ¬ (22 : Int) ≤ (k : Int) := by omega
      have h022 : ¬ (k = 0 ∨ 22 ≤ k) := by omega
      by_cases h5 : k = 5
      · have y5 : ((k : Int) == 5) = true := by simp; omega
        have n5 : ((k : Int) != 5) = false := by simp; omega
        have y4 : ((k : Int) == 4) = false := beq_eq_false_iff_ne.2 (by omega)
        have n4 : ((k : Int) != 4) = true := by simp; omega
        by_cases hn : n = 0
        · have yn : (n == 0) = true := by simp [hn]
          have nn : (n != 0) = false := by simp [hn]
          by_cases h256 : s.size ≤ 256
          · have y256 : (s.size : Int) ≤ 256 := by omega
            obtain ⟨V, hV⟩ : ∃ V, validD x.t = V := ⟨_, rfl⟩
            have C1 : Hid (Calls Tryz.prog 23 #[.string s] W0 fun e w' => e = .returned (.bool V) ∧ Below W0.heap.size W0 w') := by have := utf_any s W0 (by omega); rw [HST.out, hV] at this; exact this
            have HE : Hid (r = (0, V)) := by
              show _ = _
              rw [HR.out, if_neg h022, h5, hn, hV, decide_eq_true (show x.t.length ≤ 256 by have := HSZ.out; omega)]
              cases V <;> rfl
            clear HR HST HSZ hV h256 hn h0 h22 h022 h5
            go_enter Tryz.func9, Tryz.ntmps9
            go_wp2_with fail
            refine C1.out.mono ?_
            rintro e w1 ⟨rfl, hb1⟩
            have HB1 : Hid (Below w.heap.size w w1) := HB.out.trans (hb1.mono HB.out.size)
            clear C1 hb1 hW0
            go_wp2_with fail
            go_ret2
            exact ⟨by rw [HE.out]; rfl, HB1.out⟩
          · have y256 : ¬ (s.size : Int) ≤ 256 := by omega
            have hl : ¬ x.t.length ≤ 256 := by have := HSZ.out; omega
            have HE : Hid (r = (0, false)) := by show _ = _; rw [HR.out]; simp [h5, hn, hl]
            clear HR HST HSZ hl h256 hn h0 h22 h022 h5
            go_enter Tryz.func9, Tryz.ntmps9
            go_wp2_with fail
            go_ret2
            exact ⟨by rw [HE.out]; rfl, HB.out⟩
        · have yn : (n == 0) = false := beq_eq_false_iff_ne.2 hn
          have nn : (n != 0) = true := bne_iff_ne.2 hn
          have HE : Hid (r = (0, false)) := by show _ = _; rw [HR.out]; simp [h5, hn]
          clear HR HST HSZ hn h0 h22 h022 h5
          go_enter Tryz.func9, Tryz.ntmps9
          go_wp2_with fail
          go_ret2
          exact ⟨by rw [HE.out]; rfl, HB.out⟩
      · have y5 : ((k : Int) == 5) = false := beq_eq_false_iff_ne.2 (by omega)
        have n5 : ((k : Int) != 5) = true := by simp; omega
        by_cases h6 : k = 6
        · have y6 : ((k : Int) == 6) = true := by simp; omega
          have n6 : ((k : Int) != 6) = false := by simp; omega
          have y4 : ((k : Int) == 4) = false := beq_eq_false_iff_ne.2 (by omega)
          have n4 : ((k : Int) != 4) = true := by simp; omega
          by_cases hn : n = 0
          · have yn : (n == 0) = true := by simp [hn]
            have nn : (n != 0) = false := by simp [hn]
            obtain ⟨V, hV⟩ : ∃ V, isColP x.t = V := ⟨_, rfl⟩
            have C1 : Hid (Calls Tryz.prog 24 #[.string s] W0 fun e w' => e = .returned (.bool V) ∧ Below W0.heap.size W0 w') := by have := colR_any s W0 (by have := HSZ.out; omega); rw [HST.out, hV] at this; exact this
            have HE : Hid (r = (0, V)) := by
              show _ = _
              rw [HR.out, if_neg h022, h6, hn, hV]
              cases V <;> rfl
            clear HR HST HSZ hV hn h0 h22 h022 h5 h6
            go_enter Tryz.func9, Tryz.ntmps9
            go_wp2_with fail
            refine C1.out.mono ?_
            rintro e w1 ⟨rfl, hb1⟩
            have HB1 : Hid (Below w.heap.size w w1) := HB.out.trans (hb1.mono HB.out.size)
            clear C1 hb1 hW0
            go_wp2_with fail
            go_ret2
            exact ⟨by rw [HE.out]; rfl, HB1.out⟩
          · have yn : (n == 0) = false := beq_eq_false_iff_ne.2 hn
            have nn : (n != 0) = true := bne_iff_ne.2 hn
            have HE : Hid (r = (0, false)) := by show _ = _; rw [HR.out]; simp [h6, hn]
            clear HR HST HSZ hn h0 h22 h022 h5 h6
            go_enter Tryz.func9, Tryz.ntmps9
            go_wp2_with fail
            go_ret2
            exact ⟨by rw [HE.out]; rfl, HB.out⟩
        · have y6 : ((k : Int) == 6) = false := beq_eq_false_iff_ne.2 (by omega)
          have n6 : ((k : Int) != 6) = true := by simp; omega
          by_cases ht : x.t = []
          · have t1 : (s.toList == (⟨#[]⟩ : ByteArray).toList) = true := by rw [Lib.toList_data, HST.out, ht, empty_toList]; rfl
            have t2 : (s.toList == []) = true := by rw [Lib.toList_data, HST.out, ht]; rfl
            have t3 : (s.toList != []) = false := by rw [Lib.toList_data, HST.out, ht]; rfl
            have t4 : s.toList.isEmpty = true := by rw [Lib.toList_data, HST.out, ht]; rfl
            by_cases h4 : k = 4
            · have y4 : ((k : Int) == 4) = true := by simp; omega
              have n4 : ((k : Int) != 4) = false := by simp; omega
              have y7 : (k : Int) < 7 := by omega
              have HE : Hid (r = (0, true)) := by show _ = _; rw [HR.out]; simp [h4, ht, takesN]
              clear HR HST HSZ ht h0 h22 h022 h5 h6 h4
              go_enter Tryz.func9, Tryz.ntmps9
              go_wp2_with fail
              go_ret2
              exact ⟨by rw [HE.out]; rfl, HB.out⟩
            · have y4 : ((k : Int) == 4) = false := beq_eq_false_iff_ne.2 (by omega)
              have n4 : ((k : Int) != 4) = true := by simp; omega
              by_cases hn : n = 0
              · have yn : (n == 0) = true := by simp [hn]
                have nn : (n != 0) = false := by simp [hn]
                have HR2 : Hid (r = (takesN k, true)) := by show _ = _; rw [HR.out, if_neg h022, if_neg h4, if_neg h5, if_neg h6, hn, ht]; simp
                by_cases h7 : k < 7
                · have y7 : (k : Int) < 7 := by omega
                  have HE : Hid (r = (0, true)) := by show _ = _; rw [HR2.out]; unfold takesN; rw [if_pos (by omega)]
                  clear HR HR2 HST HSZ hn ht h0 h22 h022 h5 h6 h4 h7
                  go_enter Tryz.func9, Tryz.ntmps9
                  go_wp2_with fail
                  go_ret2
                  exact ⟨by rw [HE.out]; rfl, HB.out⟩
                · have y7 : ¬ (k : Int) < 7 := by omega
                  by_cases h10 : k ≤ 10
                  · have y10 : (k : Int) ≤ 10 := by omega
                    have HE : Hid (r = (1, true)) := by show _ = _; rw [HR2.out]; unfold takesN; rw [if_neg (by omega), if_pos h10]
                    clear HR HR2 HST HSZ hn ht h0 h22 h022 h5 h6 h4 h7 h10
                    go_enter Tryz.func9, Tryz.ntmps9
                    go_wp2_with fail
                    go_ret2
                    exact ⟨by rw [HE.out]; rfl, HB.out⟩
                  · have y10 : ¬ (k : Int) ≤ 10 := by omega
                    have HE : Hid (r = (2, true)) := by show _ = _; rw [HR2.out]; unfold takesN; rw [if_neg (by omega), if_neg h10]
                    clear HR HR2 HST HSZ hn ht h0 h22 h022 h5 h6 h4 h7 h10
                    go_enter Tryz.func9, Tryz.ntmps9
                    go_wp2_with fail
                    go_ret2
                    exact ⟨by rw [HE.out]; rfl, HB.out⟩
              · have yn : (n == 0) = false := beq_eq_false_iff_ne.2 hn
                have nn : (n != 0) = true := bne_iff_ne.2 hn
                have HE : Hid (r = (0, false)) := by show _ = _; rw [HR.out, if_neg h022, if_neg h4, if_neg h5, if_neg h6, decide_eq_false hn]; rfl
                clear HR HST HSZ hn ht h0 h22 h022 h5 h6 h4
                go_enter Tryz.func9, Tryz.ntmps9
                go_wp2_with fail
                go_ret2
                exact ⟨by rw [HE.out]; rfl, HB.out⟩
          · have t1 : (s.toList == (⟨#[]⟩ : ByteArray).toList) = false := by rw [Lib.toList_data, HST.out, empty_toList]; exact beq_eq_false_iff_ne.2 ht
            have t2 : (s.toList == []) = false := by rw [Lib.toList_data, HST.out]; exact beq_eq_false_iff_ne.2 ht
            have t3 : (s.toList != []) = true := by rw [Lib.toList_data, HST.out]; exact bne_iff_ne.2 ht
            have t4 : s.toList.isEmpty = false := by rw [Lib.toList_data, HST.out]; cases hh : x.t with | nil => exact absurd hh ht | cons _ _ => rfl
            have HE : Hid (r = (0, false)) := by show _ = _; rw [HR.out, if_neg h022, if_neg h5, if_neg h6, decide_eq_false ht]; simp
            clear HR HST HSZ ht h0 h22 h022 h5 h6
            go_enter Tryz.func9, Tryz.ntmps9
            go_wp2_with fail
            go_ret2
            exact ⟨by rw [HE.out]; rfl, HB.out⟩
set_option maxRecDepth 100000 in
set_option maxHeartbeats 4000000 in
theorem rightR_any (K : Nat → Prop) (q : Option Addr) (c : Nat) (l : List Stp) (w : World) (h : ListIs rStpW 3 32 K w (.slice q l.length c) l) (hK : ∀ b, K b → b < w.heap.size) : Calls Tryz.prog 14 #[.slice q l.length c] w fun e w' => e = .returned (.bool (rightP l)) ∧ Below w.heap.size w w' := by
  have hbig : l.length ≤ 140737488355328 := by
    obtain ⟨q', c', -, ⟨hb, -⟩, -⟩ := h
    omega
  have HL := hid h
  have HK := hid hK
  obtain ⟨R, hR⟩ : ∃ R, rightL l 0 = R := ⟨_, rfl⟩
  have HR0 : Hid (rightL (l.drop 0) 0 = R) := hR
  obtain ⟨F, hF⟩ : ∃ F, rightP l = F := ⟨_, rfl⟩
  have HFE : Hid (F = (R && decide (l.length ≤ 64))) := by
    show _ = _
    rw [← hF, ← hR]
    unfold rightP
    by_cases h64 : 64 < l.length
    · rw [if_pos h64, decide_eq_false (by omega)]; simp
    · rw [if_neg h64, decide_eq_true (by omega)]; simp
  rw [hF]
  clear h hK hR hF
  go_enter Tryz.func14, Tryz.ntmps14
  go_wp2_with fail
  go_loopg [3, 10] l.length (fun gf s3 s10 wx => ∃ (i v : Nat), s3 = .int .i64 v ∧ s10 = .int .i64 i ∧ i ≤ l.length ∧ l.length ≤ i + gf ∧ v ≤ i ∧ Hid (Below w.heap.size w wx) ∧ Hid (rightL (l.drop i) v = R))
  case atStart => exact ⟨0, 0, rfl, rfl, by omega, by omega, by omega, Below.refl _ _, HR0⟩
  case round =>
    clear HR0
    obtain ⟨i, v, rfl, rfl, hi1, hgf, hvi, HB, HT⟩ := hrel
    by_cases hi : i < l.length
    · obtain ⟨g', rfl⟩ : ∃ g', gk = g' + 1 := ⟨gk - 1, by omega⟩
      have hbw := HB.out
      obtain ⟨b, o, hq, _, hc⟩ := stp_w (HL.out.mono mStpW (fun _ h => h) (kept_of HK.out hbw)) (by omega)
      subst hq
      obtain ⟨hrg, hok⟩ := hc i hi
      have hdr : l.drop i = l[i] :: l.drop (i + 1) := List.drop_eq_getElem_cons hi
      have hT := HT.out
      rw [hdr] at hT
      obtain ⟨y, hy⟩ : ∃ y, l[i] = y := ⟨_, rfl⟩
      rw [hy] at hrg hok hT
      obtain ⟨s, hs⟩ : ∃ s : ByteArray, (⟨y.t.toArray⟩ : ByteArray) = s := ⟨_, rfl⟩
      have hv : y.v = .agg #[.int .u8 (y.k : Int), .string s, .int .i64 y.n] := by rw [← hs]; rfl
      rw [hs] at hrg
      have HRG := hid hrg
      obtain ⟨WA, hWA, hth, W1, hW1, hg1, hb1⟩ := box_three wr 29 (.int .u8 0) (.string ⟨#[]⟩) (.int .i64 0) (.int .u8 (y.k : Int)) (.string s) (.int .i64 y.n)
      have HTH := hid hth
      have HW1 := hid hW1
      have HON : Hid ((#[.int .u8 (y.k : Int), .string s, .int .i64 y.n] : Array Value).all (·.oneCell') = true) := by show _ = _; simp [Value.oneCell']
      have HR1 : Hid (W1.rangeAt wr.heap.size 0 [.int .u8 (y.k : Int), .string s, .int .i64 y.n]) := fun j u hu => by rw [Nat.zero_add]; exact cell_of_row hg1 (by simpa using hu)
      obtain ⟨tk, ok, htk⟩ : ∃ tk ok, takesP y = (tk, ok) := ⟨_, _, rfl⟩
      have htk2 : tk ≤ 2 := by have := takesP_le y; rw [htk] at this; exact this
      have hbW : Below w.heap.size w W1 := hbw.trans (hb1.mono hbw.size)
      have C : Hid (Calls Tryz.prog 9 #[.agg #[.int .u8 (y.k : Int), .string s, .int .i64 y.n]] W1 fun e w' => e = .returned (.tuple #[.int .i64 (tk : Int), .bool ok]) ∧ Below W1.heap.size W1 w') := by have := takesR_any y W1 hok; rw [hv, htk] at this; exact this
      have HBW := hid hbW
      have HT2 : Hid ((if ok = false ∨ v < tk then false else rightL (l.drop (i + 1)) (v + 1 - tk)) = R) := by
        show _ = _
        rw [← hT]
        show _ = (if (takesP y).2 = false ∨ v < (takesP y).1 then false else rightL (l.drop (i + 1)) (v + 1 - (takesP y).1))
        rw [htk]
      have z0 : (0 : Int) ≤ (i : Int) := by omega
      have z1 : (i : Int) < (l.length : Int) := by omega
      clear hc hrg hok hdr hT hy hs hv hth hW1 hg1 hb1 hbw hbW htk HT HB
      go_wp2_with (first | (refine wpList_load_mid rfl 29 _ rfl b (o + i * 3) rfl _ _ HRG.out Tryz.underlying29 rfl sz_step ?_) | (refine wpList_store_mid rfl 29 _ _ rfl wr.heap.size 0 #[.int .u8 (y.k : Int), .string s, .int .i64 y.n] rfl rfl HTH.out sz_step HON.out ?_; rw [show WA.setCells wr.heap.size 0 (#[.int .u8 (y.k : Int), .string s, .int .i64 y.n] : Array Value).toList = W1 from HW1.out]) | (refine wpList_load_mid rfl 29 _ rfl wr.heap.size 0 rfl _ _ HR1.out Tryz.underlying29 rfl sz_step ?_))
      refine C.out.mono ?_
      rintro e w2 ⟨rfl, hb2⟩
      have HB2 : Hid (Below w.heap.size w w2) := HBW.out.trans (hb2.mono HBW.out.size)
      clear C hb2 HBW HRG HTH HW1 HON HR1 hWA
      cases ok with
      | false =>
        have HE : Hid (R = false) := by have := HT2.out; rw [if_pos (.inl rfl)] at this; exact this.symm
        clear HT2
        go_wp2_with fail
        go_ret
        exact ⟨by rw [HFE.out, HE.out]; rfl, HB2.out⟩
      | true =>
        by_cases hvt : v < tk
        · have yv : (v : Int) < (tk : Int) := by omega
          have HE : Hid (R = false) := by have := HT2.out; rw [if_pos (.inr hvt)] at this; exact this.symm
          clear HT2 hvt
          go_wp2_with fail
          go_ret
          exact ⟨by rw [HFE.out, HE.out]; rfl, HB2.out⟩
        · have yv : ¬ (v : Int) < (tk : Int) := by omega
          have HT3 : Hid (rightL (l.drop (i + 1)) (v + 1 - tk) = R) := by have := HT2.out; rw [if_neg (by simpa using hvt)] at this; exact this
          have hvn : ((v + 1 - tk : Nat) : Int) = (v : Int) + (1 - (tk : Int)) := by omega
          have HVN := hid hvn
          clear HT2 hvn
          go_wp2_with fail
          go_roundg g'
          case measure => omega
          case rel => exact ⟨i + 1, v + 1 - tk, by rw [HVN.out], by go_num, by omega, by omega, by omega, HB2, HT3⟩
    · have z1 : ¬ (i : Int) < (l.length : Int) := by omega
      have HE : Hid (decide (v = 1) = R) := by
        have := HT.out
        rw [List.drop_of_length_le (by omega)] at this
        exact this
      clear HT
      by_cases hv1 : v = 1
      · have yv : ((v : Int) == 1) = true := by simp [hv1]
        by_cases h64 : l.length ≤ 64
        · have y64 : (l.length : Int) ≤ 64 := by omega
          have y64d : decide (l.length ≤ 64) = true := decide_eq_true h64
          have HE2 : Hid (F = true) := by show _ = _; rw [HFE.out, ← HE.out, decide_eq_true hv1, decide_eq_true h64]; rfl
          clear HE hv1 HFE h64
          go_wp2_with fail
          go_ret
          exact ⟨by rw [HE2.out]; rfl, HB.out⟩
        · have y64 : ¬ (l.length : Int) ≤ 64 := by omega
          have y64d : decide (l.length ≤ 64) = false := decide_eq_false h64
          have HE2 : Hid (F = false) := by show _ = _; rw [HFE.out, decide_eq_false h64]; simp
          clear HE hv1 HFE h64
          go_wp2_with fail
          go_ret
          exact ⟨by rw [HE2.out]; rfl, HB.out⟩
      · have yv : ((v : Int) == 1) = false := beq_eq_false_iff_ne.2 (by omega)
        have HE2 : Hid (F = false) := by show _ = _; rw [HFE.out, ← HE.out, decide_eq_false hv1]; rfl
        clear HE hv1 HFE
        go_wp2_with fail
        go_ret
        exact ⟨by rw [HE2.out]; rfl, HB.out⟩
end Go.Proofs.YtnmmojhbcnlboaaGreatDoor.Rf
/- What the reference's Check answers: what Check does. -/
namespace Go.Proofs.YtnmmojhbcnlboaaGreatDoor.Rf
open Go.Shelf Go.RowKit Go.Lib Go.Sort
set_option linter.unusedVariables false
set_option linter.unusedSimpArgs false
attribute [local go_sem ↓] Go.wp_at_zero Go.wp_at_succ
theorem item_ref (x : Itm) : itemOkP x = !(decide (5 ≤ x.g) || (decide (x.g = 1) && decide (x.e ≠ [])) || (decide (x.g ≠ 1) && !(rightP x.e))) := by
  unfold itemOkP
  by_cases h1 : x.g = 1
  · rw [if_pos h1, h1]
    by_cases he : x.e = [] <;> simp [he]
  · rw [if_neg h1]
    by_cases h5 : x.g < 5
    · rw [decide_eq_true h5, decide_eq_false (show ¬ 5 ≤ x.g by omega), decide_eq_false h1, decide_eq_true h1]; simp
    · rw [decide_eq_false h5, decide_eq_true (show 5 ≤ x.g by omega)]; simp
def okA (q : Qry) : Bool := isNameP q.t && (decide (q.i.length ≤ 8) && (decide (q.g.length ≤ 8) && ((decide (q.w = []) || rightP q.w) && (decide (q.g = []) || decide (q.i ≠ [])))))
theorem ok_all (q : Qry) : queryOkP q = (((okA q && joinOkP q) && q.i.all itemOkP) && q.g.all isColP) := by
  unfold queryOkP okA whereOkP itemsOkP groupOkP
  by_cases h1 : q.i.length ≤ 8
  · rw [if_neg (by omega), decide_eq_true h1]
    by_cases h2 : q.g.length ≤ 8
    · rw [if_neg (by omega), decide_eq_true h2]
      cases isNameP q.t <;> cases joinOkP q <;> cases (decide (q.w = []) || rightP q.w) <;> cases q.i.all itemOkP <;> cases q.g.all isColP <;> cases (decide (q.g = []) || decide (q.i ≠ [])) <;> rfl
    · rw [if_pos (by omega), decide_eq_false h2]
      cases isNameP q.t <;> cases joinOkP q <;> cases (decide (q.w = []) || rightP q.w) <;> cases q.i.all itemOkP <;> rfl
  · rw [if_pos (by omega), decide_eq_false h1]
    cases isNameP q.t <;> cases joinOkP q <;> cases (decide (q.w = []) || rightP q.w) <;> rfl
set_option maxRecDepth 100000 in
set_option maxHeartbeats 8000000 in
theorem checkR_any (K : Nat → Prop) (pi pw pg : Option Addr) (ci cw cg : Nat) (q : Qry) (w : World) (h : QLsW K w pi pw pg ci cw cg q) (hK : ∀ b, K b → b < w.heap.size) : Calls Tryz.prog 12 #[.agg (q.cl (.slice pi q.i.length ci) (.slice pw q.w.length cw) (.slice pg q.g.length cg))] w fun e w' => e = .returned (.int .i64 (checkQ q)) ∧ Below w.heap.size w w' := by
  obtain ⟨s0, hs0⟩ : ∃ s : ByteArray, (⟨q.t.toArray⟩ : ByteArray) = s := ⟨_, rfl⟩
  obtain ⟨s1, hs1⟩ : ∃ s : ByteArray, (⟨q.j.toArray⟩ : ByteArray) = s := ⟨_, rfl⟩
  obtain ⟨s2, hs2⟩ : ∃ s : ByteArray, (⟨q.a.toArray⟩ : ByteArray) = s := ⟨_, rfl⟩
  obtain ⟨s3, hs3⟩ : ∃ s : ByteArray, (⟨q.b.toArray⟩ : ByteArray) = s := ⟨_, rfl⟩
  obtain ⟨ni, hni⟩ : ∃ n, q.i.length = n := ⟨_, rfl⟩
  obtain ⟨nw, hnw⟩ : ∃ n, q.w.length = n := ⟨_, rfl⟩
  obtain ⟨ng, hng⟩ : ∃ n, q.g.length = n := ⟨_, rfl⟩
  have hcl : q.cl (.slice pi q.i.length ci) (.slice pw q.w.length cw) (.slice pg q.g.length cg) = #[.slice pi ni ci, .string s0, .string s1, .string s2, .string s3, .slice pw nw cw, .slice pg ng cg] := by unfold Qry.cl; rw [hs0, hs1, hs2, hs3, hni, hnw, hng]
  have HS : Hid (s0.data.toList = q.t ∧ s1.data.toList = q.j ∧ s2.data.toList = q.a ∧ s3.data.toList = q.b) := ⟨by rw [← hs0], by rw [← hs1], by rw [← hs2], by rw [← hs3]⟩
  have HN : Hid (q.i.length = ni ∧ q.w.length = nw ∧ q.g.length = ng) := ⟨hni, hnw, hng⟩
  obtain ⟨W0, hW0⟩ : ∃ W0, w.alloc (.cells #[.slice pi ni ci, .string s0, .string s1, .string s2, .string s3, .slice pw nw cw, .slice pg ng cg] 26) = W0 := ⟨_, rfl⟩
  have hb0 : Below w.heap.size w W0 := by rw [← hW0]; exact below_alloc _ _
  have hg0 : W0.heap[w.heap.size]? = some (.cells #[.slice pi ni ci, .string s0, .string s1, .string s2, .string s3, .slice pw nw cw, .slice pg ng cg] 26 (0, 0)) := by rw [← hW0]; exact heap_alloc_new w _
  have HQ := hid (h.below hK hb0)
  have HK0 : Hid (∀ b, K b → b < W0.heap.size) := fun b hb => Nat.lt_of_lt_of_le (hK b hb) hb0.size
  have HB := hid hb0
  have hl0 : w.heap.size < W0.heap.size := (Array.getElem?_eq_some_iff.1 hg0).1
  have HL : Hid (∀ V, Below W0.heap.size W0 V → V.cell? ⟨w.heap.size, 0, none⟩ = some (.slice pi ni ci) ∧ V.cell? ⟨w.heap.size, 1, none⟩ = some (.string s0) ∧ V.cell? ⟨w.heap.size, 2, none⟩ = some (.string s1) ∧ V.cell? ⟨w.heap.size, 3, none⟩ = some (.string s2) ∧ V.cell? ⟨w.heap.size, 4, none⟩ = some (.string s3) ∧ V.cell? ⟨w.heap.size, 5, none⟩ = some (.slice pw nw cw) ∧ V.cell? ⟨w.heap.size, 6, none⟩ = some (.slice pg ng cg) ∧ Below w.heap.size w V) := fun V hb => by
    have hg := (hb.block _ hl0).trans hg0
    exact ⟨cell_of_row hg rfl, cell_of_row hg rfl, cell_of_row hg rfl, cell_of_row hg rfl, cell_of_row hg rfl, cell_of_row hg rfl, cell_of_row hg rfl, hb0.trans (hb.mono hb0.size)⟩
  have hszl : ∀ (s : ByteArray) (l : List UInt8), s.data.toList = l → l.length ≤ 140737488355328 → s.size ≤ 9223372036854775806 := fun s l h1 h2 => by
    have h3 : s.data.toList.length = s.size := by simp
    rw [h1] at h3
    omega
  obtain ⟨N0, hN0⟩ : ∃ N, isNameP q.t = N := ⟨_, rfl⟩
  obtain ⟨R0, hR0⟩ : ∃ N, rightP q.w = N := ⟨_, rfl⟩
  obtain ⟨NJ, hNJ⟩ : ∃ N, isNameP q.j = N := ⟨_, rfl⟩
  obtain ⟨CA, hCA⟩ : ∃ N, isColP q.a = N := ⟨_, rfl⟩
  obtain ⟨CB, hCB⟩ : ∃ N, isColP q.b = N := ⟨_, rfl⟩
  have CN : Hid (∀ V, Calls Tryz.prog 31 #[.string s0] V fun e w' => e = .returned (.bool N0) ∧ Below V.heap.size V w') := fun V => by have := name_any s0 V; rw [HS.out.1, hN0] at this; exact this
  have CJ : Hid (∀ V, Calls Tryz.prog 31 #[.string s1] V fun e w' => e = .returned (.bool NJ) ∧ Below V.heap.size V w') := fun V => by have := name_any s1 V; rw [HS.out.2.1, hNJ] at this; exact this
  have CCA : Hid (∀ V, Calls Tryz.prog 24 #[.string s2] V fun e w' => e = .returned (.bool CA) ∧ Below V.heap.size V w') := fun V => by have := colR_any s2 V (hszl s2 _ HS.out.2.2.1 HQ.out.la); rw [HS.out.2.2.1, hCA] at this; exact this
  have CCB : Hid (∀ V, Calls Tryz.prog 24 #[.string s3] V fun e w' => e = .returned (.bool CB) ∧ Below V.heap.size V w') := fun V => by have := colR_any s3 V (hszl s3 _ HS.out.2.2.2 HQ.out.lb); rw [HS.out.2.2.2, hCB] at this; exact this
  have CR : Hid (∀ V, Below W0.heap.size W0 V → Calls Tryz.prog 14 #[.slice pw nw cw] V fun e w' => e = .returned (.bool R0) ∧ Below V.heap.size V w') := fun V hb => by
    have hq := HQ.out.below HK0.out hb
    have hkV : ∀ b, K b → b < V.heap.size := fun b h => Nat.lt_of_lt_of_le (HK0.out b h) hb.size
    have := rightR_any K pw cw q.w V hq.lw hkV
    rw [HN.out.2.1, hR0] at this
    exact this
  have HOA : Hid (okA q = (N0 && (decide (ni ≤ 8) && (decide (ng ≤ 8) && ((decide (nw = 0) || R0) && (decide (ng = 0) || decide (0 < ni))))))) := by
    show _ = _
    unfold okA
    rw [hN0, hR0, ← HN.out.1, ← HN.out.2.1, ← HN.out.2.2]
    have e1 : decide (q.w = []) = decide (q.w.length = 0) := by cases q.w <;> rfl
    have e2 : decide (q.g = []) = decide (q.g.length = 0) := by cases q.g <;> rfl
    have e3 : decide (q.i ≠ []) = decide (0 < q.i.length) := by cases q.i <;> simp
    rw [e1, e2, e3]
  have HOJ : Hid (joinOkP q = if q.j = [] then decide (q.a = []) && decide (q.b = []) else NJ && (decide (q.j ≠ q.t) && (CA && CB))) := by
    show _ = _
    unfold joinOkP
    rw [hNJ, hCA, hCB]
  have HALL : Hid (checkQ q = if (((okA q && joinOkP q) && q.i.all itemOkP) && q.g.all isColP) then 0 else 13) := by show _ = _; unfold checkQ; rw [ok_all]
  rw [hcl]
  obtain ⟨RES, hRES⟩ : ∃ r, checkQ q = r := ⟨_, rfl⟩
  rw [hRES] at HALL ⊢
  clear h hK hb0 hg0 hl0 hs0 hs1 hs2 hs3 hni hnw hng hcl hszl hN0 hR0 hNJ hCA hCB hRES
  go_enter Tryz.func12, Tryz.ntmps12
  go_upto_region 1 with fail
  clear hW0
  go_cut [3] (fun s3 wx => ∃ b : Bool, s3 = .bool b ∧ Hid (b = okA q) ∧ Hid (Below W0.heap.size W0 wx))
  case first =>
    obtain ⟨d0, d1, -, -, -, d5, d6, -⟩ := HL.out W0 (Below.refl _ _)
    go_wp2_with fail
    refine (CN.out _).mono ?_
    rintro e w1 ⟨rfl, hb1⟩
    have HB1 := hid hb1
    clear hb1 d1
    obtain ⟨f0, f1, -, -, -, f5, f6, -⟩ := HL.out w1 HB1.out
    clear d0 d5 d6
    cases N0 with
    | false =>
      go_wp2_with fail
      go_meet
      case rel => exact ⟨false, rfl, by show _ = _; rw [HOA.out]; rfl, HB1⟩
    | true =>
      by_cases a1 : ni ≤ 8
      case neg =>
        have y1 : ¬ (ni : Int) ≤ 8 := by omega
        have y1d : decide (ni ≤ 8) = false := decide_eq_false a1
        go_wp2_with fail
        go_meet
        case rel => exact ⟨false, rfl, by show _ = _; rw [HOA.out]; simp [a1], HB1⟩
      have y1 : (ni : Int) ≤ 8 := by omega
      have y1d : decide (ni ≤ 8) = true := decide_eq_true a1
      by_cases a2 : ng ≤ 8
      case neg =>
        have y2 : ¬ (ng : Int) ≤ 8 := by omega
        have y2d : decide (ng ≤ 8) = false := decide_eq_false a2
        go_wp2_with fail
        go_meet
        case rel => exact ⟨false, rfl, by show _ = _; rw [HOA.out]; simp [a2], HB1⟩
      have y2 : (ng : Int) ≤ 8 := by omega
      have y2d : decide (ng ≤ 8) = true := decide_eq_true a2
      by_cases a3 : nw = 0
      case pos =>
        have y3 : ((nw : Int) == 0) = true := by simp [a3]
        have y3d : (nw == 0) = true := by simp [a3]
        have A3 := hid a3
        clear a3
        by_cases a4 : ng = 0
        case pos =>
          have y4 : ((ng : Int) == 0) = true := by simp [a4]
          have y4d : (ng == 0) = true := by simp [a4]
          have A4 := hid a4
          clear a4
          go_wp2_with fail
          go_meet
          case rel => exact ⟨true, rfl, by show _ = _; rw [HOA.out]; simp [a1, a2, A4.out, A3.out], HB1⟩
        have y4 : ((ng : Int) == 0) = false := beq_eq_false_iff_ne.2 (by omega)
        have y4d : (ng == 0) = false := beq_eq_false_iff_ne.2 a4
        by_cases a5 : 0 < ni
        case pos =>
          have y5 : (0 : Int) < (ni : Int) := by omega
          have y5d : decide (0 < ni) = true := decide_eq_true a5
          go_wp2_with fail
          go_meet
          case rel => exact ⟨true, rfl, by show _ = _; rw [HOA.out]; simp [a1, a2, a4, a5, A3.out], HB1⟩
        have y5 : ¬ (0 : Int) < (ni : Int) := by omega
        have y5d : decide (0 < ni) = false := decide_eq_false a5
        go_wp2_with fail
        go_meet
        case rel => exact ⟨false, rfl, by show _ = _; rw [HOA.out]; simp [a1, a2, a4, a5, A3.out], HB1⟩
      have y3 : ((nw : Int) == 0) = false := beq_eq_false_iff_ne.2 (by omega)
      have y3d : (nw == 0) = false := beq_eq_false_iff_ne.2 a3
      go_wp2_with fail
      refine (CR.out _ HB1.out).mono ?_
      rintro e w2 ⟨rfl, hb2⟩
      have HB2 : Hid (Below W0.heap.size W0 w2) := HB1.out.trans (hb2.mono HB1.out.size)
      obtain ⟨g0, g1, -, -, -, g5, g6, -⟩ := HL.out w2 HB2.out
      clear hb2 f0 f1 f5 f6
      cases R0 with
      | false =>
        go_wp2_with fail
        go_meet
        case rel => exact ⟨false, rfl, by show _ = _; rw [HOA.out]; simp [a1, a2, a3], HB2⟩
      | true =>
        by_cases a4 : ng = 0
        case pos =>
          have y4 : ((ng : Int) == 0) = true := by simp [a4]
          have y4d : (ng == 0) = true := by simp [a4]
          have A4 := hid a4
          clear a4
          go_wp2_with fail
          go_meet
          case rel => exact ⟨true, rfl, by show _ = _; rw [HOA.out]; simp [a1, a2, A4.out, a3], HB2⟩
        have y4 : ((ng : Int) == 0) = false := beq_eq_false_iff_ne.2 (by omega)
        have y4d : (ng == 0) = false := beq_eq_false_iff_ne.2 a4
        by_cases a5 : 0 < ni
        case pos =>
          have y5 : (0 : Int) < (ni : Int) := by omega
          have y5d : decide (0 < ni) = true := decide_eq_true a5
          go_wp2_with fail
          go_meet
          case rel => exact ⟨true, rfl, by show _ = _; rw [HOA.out]; simp [a1, a2, a4, a5, a3], HB2⟩
        have y5 : ¬ (0 : Int) < (ni : Int) := by omega
        have y5d : decide (0 < ni) = false := decide_eq_false a5
        go_wp2_with fail
        go_meet
        case rel => exact ⟨false, rfl, by show _ = _; rw [HOA.out]; simp [a1, a2, a4, a5, a3], HB2⟩
  case rest =>
    obtain ⟨bA, rfl, HBA, HBX⟩ := hcut
    obtain ⟨-, -, f2c, -, -, -, -, -⟩ := HL.out wc HBX.out
    go_upto_if 48 with fail
    clear f2c
    go_cut [3] (fun s3 wx => ∃ b : Bool, s3 = .bool b ∧ Hid (b = (okA q && joinOkP q)) ∧ Hid (Below W0.heap.size W0 wx))
    case first =>
      have HQA : Hid (okA q = bA) := HBA.out.symm
      obtain ⟨-, e1c, e2c, e3c, e4c, -, -, -⟩ := HL.out wc HBX.out
      by_cases hj : q.j = []
      case pos =>
        have t1 : (s1.toList == (⟨#[]⟩ : ByteArray).toList) = true := by rw [Lib.toList_data, HS.out.2.1, hj, empty_toList]; rfl
        have t2 : (s1.toList == []) = true := by rw [Lib.toList_data, HS.out.2.1, hj]; rfl
        have t5 : s1.toList.isEmpty = true := by rw [Lib.toList_data, HS.out.2.1, hj]; rfl
        simp only [t5, Bool.not_true, Bool.not_false]
        cases bA with
        | false =>
          go_wp2_with fail
          go_meet
          case rel => exact ⟨false, rfl, by show _ = _; rw [HQA.out, HOJ.out, if_pos hj]; simp, HBX⟩
        | true =>
          by_cases ha : q.a = []
          case neg =>
            have ta1 : (s2.toList == (⟨#[]⟩ : ByteArray).toList) = false := by rw [Lib.toList_data, HS.out.2.2.1, empty_toList]; exact beq_eq_false_iff_ne.2 ha
            have ta2 : (s2.toList == []) = false := by rw [Lib.toList_data, HS.out.2.2.1]; exact beq_eq_false_iff_ne.2 ha
            have ta5 : s2.toList.isEmpty = false := by rw [Lib.toList_data, HS.out.2.2.1]; cases hh : q.a with | nil => exact absurd hh ha | cons _ _ => rfl
            go_wp2_with fail
            go_meet
            case rel => exact ⟨false, rfl, by show _ = _; rw [HQA.out, HOJ.out, if_pos hj]; simp [ha], HBX⟩
          have ta1 : (s2.toList == (⟨#[]⟩ : ByteArray).toList) = true := by rw [Lib.toList_data, HS.out.2.2.1, ha, empty_toList]; rfl
          have ta2 : (s2.toList == []) = true := by rw [Lib.toList_data, HS.out.2.2.1, ha]; rfl
          have ta5 : s2.toList.isEmpty = true := by rw [Lib.toList_data, HS.out.2.2.1, ha]; rfl
          by_cases hb : q.b = []
          case neg =>
            have tb1 : (s3.toList == (⟨#[]⟩ : ByteArray).toList) = false := by rw [Lib.toList_data, HS.out.2.2.2, empty_toList]; exact beq_eq_false_iff_ne.2 hb
            have tb2 : (s3.toList == []) = false := by rw [Lib.toList_data, HS.out.2.2.2]; exact beq_eq_false_iff_ne.2 hb
            have tb5 : s3.toList.isEmpty = false := by rw [Lib.toList_data, HS.out.2.2.2]; cases hh : q.b with | nil => exact absurd hh hb | cons _ _ => rfl
            go_wp2_with fail
            go_meet
            case rel => exact ⟨false, rfl, by show _ = _; rw [HQA.out, HOJ.out, if_pos hj]; simp [ha, hb], HBX⟩
          have tb1 : (s3.toList == (⟨#[]⟩ : ByteArray).toList) = true := by rw [Lib.toList_data, HS.out.2.2.2, hb, empty_toList]; rfl
          have tb2 : (s3.toList == []) = true := by rw [Lib.toList_data, HS.out.2.2.2, hb]; rfl
          have tb5 : s3.toList.isEmpty = true := by rw [Lib.toList_data, HS.out.2.2.2, hb]; rfl
          go_wp2_with fail
          go_meet
          case rel => exact ⟨true, rfl, by show _ = _; rw [HQA.out, HOJ.out, if_pos hj]; simp [ha, hb], HBX⟩
      have t1 : (s1.toList == (⟨#[]⟩ : ByteArray).toList) = false := by rw [Lib.toList_data, HS.out.2.1, empty_toList]; exact beq_eq_false_iff_ne.2 hj
      have t2 : (s1.toList == []) = false := by rw [Lib.toList_data, HS.out.2.1]; exact beq_eq_false_iff_ne.2 hj
      have t5 : s1.toList.isEmpty = false := by rw [Lib.toList_data, HS.out.2.1]; cases hh : q.j with | nil => exact absurd hh hj | cons _ _ => rfl
      simp only [t5, Bool.not_true, Bool.not_false]
      cases bA with
      | false =>
        go_wp2_with fail
        go_meet
        case rel => exact ⟨false, rfl, by show _ = _; rw [HQA.out, HOJ.out, if_neg hj]; simp, HBX⟩
      | true =>
        go_wp2_with fail
        refine (CJ.out _).mono ?_
        rintro e w3 ⟨rfl, hb3⟩
        have HB3 : Hid (Below W0.heap.size W0 w3) := HBX.out.trans (hb3.mono HBX.out.size)
        obtain ⟨-, h1c, h2c, h3c, h4c, -, -, -⟩ := HL.out w3 HB3.out
        clear hb3 e1c e2c e3c e4c
        cases NJ with
        | false =>
          go_wp2_with fail
          go_meet
          case rel => exact ⟨false, rfl, by show _ = _; rw [HQA.out, HOJ.out, if_neg hj]; simp [], HB3⟩
        | true =>
          by_cases hjt : q.j = q.t
          case pos =>
            have u1 : (s1.toList == s0.toList) = true := by rw [Lib.toList_data, Lib.toList_data, HS.out.1, HS.out.2.1, hjt]; simp
            have u2 : (s1.toList != s0.toList) = false := by rw [Lib.toList_data, Lib.toList_data, HS.out.1, HS.out.2.1, hjt]; simp
            go_wp2_with fail
            go_meet
            case rel => exact ⟨false, rfl, by show _ = _; rw [HQA.out, HOJ.out, if_neg hj]; simp [hjt], HB3⟩
          have u1 : (s1.toList == s0.toList) = false := by rw [Lib.toList_data, Lib.toList_data, HS.out.1, HS.out.2.1]; exact beq_eq_false_iff_ne.2 hjt
          have u2 : (s1.toList != s0.toList) = true := by rw [Lib.toList_data, Lib.toList_data, HS.out.1, HS.out.2.1]; exact bne_iff_ne.2 hjt
          go_wp2_with fail
          refine (CCA.out _).mono ?_
          rintro e w4 ⟨rfl, hb4⟩
          have HB4 : Hid (Below W0.heap.size W0 w4) := HB3.out.trans (hb4.mono HB3.out.size)
          obtain ⟨-, -, -, -, k4c, -, -, -⟩ := HL.out w4 HB4.out
          clear hb4 h1c h2c h3c h4c
          cases CA with
          | false =>
            go_wp2_with fail
            go_meet
            case rel => exact ⟨false, rfl, by show _ = _; rw [HQA.out, HOJ.out, if_neg hj]; simp [hjt], HB4⟩
          | true =>
            go_wp2_with fail
            refine (CCB.out _).mono ?_
            rintro e w5 ⟨rfl, hb5⟩
            have HB5 : Hid (Below W0.heap.size W0 w5) := HB4.out.trans (hb5.mono HB4.out.size)
            clear hb5 k4c
            go_wp2_with fail
            go_meet
            case rel => exact ⟨CB, rfl, by show _ = _; rw [HQA.out, HOJ.out, if_neg hj]; simp [hjt], HB5⟩
    case rest =>
      obtain ⟨bJ, rfl, HBJ, HBY⟩ := hcut
      clear HBX HBA
      obtain ⟨f0c, -, -, -, -, -, -, -⟩ := HL.out wc HBY.out
      clear HOA HOJ CN CJ CCA CCB CR
      have hnib : ni ≤ 140737488355328 := by
        obtain ⟨q', c', -, ⟨hb, -⟩, -⟩ := HQ.out.li
        rw [HN.out.1] at hb
        omega
      have hngb : ng ≤ 140737488355328 := by
        obtain ⟨q', c', -, ⟨hb, -⟩, -⟩ := HQ.out.lg
        rw [HN.out.2.2] at hb
        omega
      go_wp2_with fail
      go_loopg [3, 86] ni (fun gf s3 s86 wx => ∃ (i : Nat) (b : Bool), s3 = .bool b ∧ s86 = .int .i64 i ∧ i ≤ ni ∧ ni ≤ i + gf ∧ Hid (Below W0.heap.size W0 wx) ∧ Hid (b = ((okA q && joinOkP q) && (q.i.take i).all itemOkP)))
      case atStart => exact ⟨0, bJ, rfl, rfl, by omega, by omega, HBY, by show _ = _; rw [HBJ.out]; simp⟩
      case round =>
        clear HBY HBJ f0c
        obtain ⟨i, b, rfl, rfl, hi1, hgf, HBX, HT⟩ := hrel
        by_cases hi : i < ni
        · obtain ⟨g', rfl⟩ : ∃ g', gk = g' + 1 := ⟨gk - 1, by omega⟩
          have hiq : i < q.i.length := by rw [HN.out.1]; exact hi
          obtain ⟨bb, o, hq, _, hc⟩ := itm_w (HQ.out.li.mono mItmW (fun _ h => h) (kept_of HK0.out HBX.out)) (by omega)
          subst hq
          obtain ⟨p, cp, hrg, hli, h256⟩ := hc i hiq
          have hbig : q.i[i].e.length ≤ 140737488355328 := by
            obtain ⟨q', c', -, ⟨hb, -⟩, -⟩ := hli
            omega
          have htk : q.i.take (i + 1) = q.i.take i ++ [q.i[i]] := by rw [List.take_add_one, List.getElem?_eq_getElem hiq]; rfl
          obtain ⟨y, hy⟩ : ∃ y, q.i[i] = y := ⟨_, rfl⟩
          rw [hy] at hrg hli h256 htk hbig
          obtain ⟨gi, hgi⟩ : ∃ gi : Int, (y.g : Int) = gi := ⟨_, rfl⟩
          obtain ⟨m, hm⟩ : ∃ m, y.e.length = m := ⟨_, rfl⟩
          rw [hgi, hm] at hrg
          have HRG := hid hrg
          obtain ⟨WA, hWA, hth, W1, hW1, hg1, hb1⟩ := box_two wr 45 (.int .u8 0) (.slice none 0 0) (.int .u8 gi) (.slice p m cp)
          have HTH := hid hth
          have HW1 := hid hW1
          have HON : Hid ((#[.int .u8 gi, .slice p m cp] : Array Value).all (·.oneCell') = true) := by show _ = _; simp [Value.oneCell']
          have j0 := cell_of_row (k := 0) (v := .int .u8 gi) hg1 rfl
          have j1 := cell_of_row (k := 1) (v := .slice p m cp) hg1 rfl
          have hbx := HBX.out
          have hbX : Below W0.heap.size W0 W1 := hbx.trans (hb1.mono hbx.size)
          have hKW : ∀ b, K b → b < wr.heap.size := fun b hb => Nat.lt_of_lt_of_le (HK0.out b hb) hbx.size
          obtain ⟨Y, hY⟩ : ∃ Y, rightP y.e = Y := ⟨_, rfl⟩
          have C : Hid (Calls Tryz.prog 14 #[.slice p m cp] W1 fun e w' => e = .returned (.bool Y) ∧ Below W1.heap.size W1 w') := by have := rightR_any K p cp y.e W1 (hli.mono mStpW (fun _ h => h) (kept_of hKW hb1)) (fun b hb => Nat.lt_of_lt_of_le (hKW b hb) hb1.size); rw [hm, hY] at this; exact this
          have HBX1 := hid hbX
          have HNX : Hid (∀ b' : Bool, b' = (b && itemOkP y) → b' = ((okA q && joinOkP q) && (q.i.take (i + 1)).all itemOkP)) := fun b' hb' => by
            rw [hb', HT.out, htk, List.all_append]
            simp [Bool.and_assoc]
          have HIT : Hid (itemOkP y = !(decide (5 ≤ gi) || (decide (gi = 1) && decide (0 < m)) || (decide (gi ≠ 1) && !Y))) := by
            show _ = _
            rw [item_ref, hY, ← hgi, ← hm]
            have e1 : decide (y.e ≠ []) = decide (0 < y.e.length) := by cases y.e <;> simp
            have e2 : decide (5 ≤ y.g) = decide ((5 : Int) ≤ (y.g : Int)) := by rw [decide_eq_decide]; omega
            have e3 : decide (y.g = 1) = decide ((y.g : Int) = 1) := by rw [decide_eq_decide]; omega
            have e4 : decide (y.g ≠ 1) = decide ((y.g : Int) ≠ 1) := by rw [decide_eq_decide]; omega
            rw [e1, e2, e3, e4]
          have z0 : (0 : Int) ≤ (i : Int) := by omega
          have z1 : (i : Int) < (ni : Int) := by omega
          have mb : m ≤ 140737488355328 := by omega
          clear hc hrg hli h256 hy hgi hm hth hW1 hg1 hb1 hbx hbX hKW hY HT HBX hiq htk hbig
          go_upto_region 8 with (first | (refine wpList_load_mid rfl 45 _ rfl bb (o + i * 2) rfl _ _ HRG.out Tryz.underlying45 rfl sz_item ?_) | (refine wpList_store_mid rfl 45 _ _ rfl wr.heap.size 0 #[.int .u8 gi, .slice p m cp] rfl rfl HTH.out sz_item HON.out ?_; rw [show WA.setCells wr.heap.size 0 (#[.int .u8 gi, .slice p m cp] : Array Value).toList = W1 from HW1.out]))
          clear HRG HTH HW1 HON hWA
          by_cases g5 : 5 ≤ gi
          · have HF : Hid (false = ((okA q && joinOkP q) && (q.i.take (i + 1)).all itemOkP)) := HNX.out false (by rw [HIT.out, decide_eq_true g5]; simp)
            clear HNX HIT C
            go_wp2_with fail
            go_roundg g'
            case measure => omega
            case rel => exact ⟨i + 1, false, rfl, by go_num, by omega, by omega, HBX1, HF⟩
          · by_cases g1 : gi = 1
            · have y1 : (gi == 1) = true := by simp [g1]
              have y1n : (gi != 1) = false := by simp [g1]
              by_cases m0 : 0 < m
              · have ym : (0 : Int) < (m : Int) := by omega
                have ymd : decide (0 < m) = true := decide_eq_true m0
                have HF : Hid (false = ((okA q && joinOkP q) && (q.i.take (i + 1)).all itemOkP)) := HNX.out false (by rw [HIT.out, decide_eq_true g1, decide_eq_true m0]; simp)
                clear HNX HIT C g1
                go_wp2_with fail
                go_roundg g'
                case measure => omega
                case rel => exact ⟨i + 1, false, rfl, by go_num, by omega, by omega, HBX1, HF⟩
              · have ym : ¬ (0 : Int) < (m : Int) := by omega
                have ymd : decide (0 < m) = false := decide_eq_false m0
                have HF : Hid (b = ((okA q && joinOkP q) && (q.i.take (i + 1)).all itemOkP)) := HNX.out b (by rw [HIT.out, decide_eq_false (show ¬ 5 ≤ gi by omega), decide_eq_false m0, decide_eq_false (show ¬ gi ≠ 1 from fun h => h g1)]; simp)
                clear HNX HIT C g1
                go_wp2_with fail
                go_roundg g'
                case measure => omega
                case rel => exact ⟨i + 1, b, rfl, by go_num, by omega, by omega, HBX1, HF⟩
            · have y1 : (gi == 1) = false := beq_eq_false_iff_ne.2 g1
              have y1n : (gi != 1) = true := bne_iff_ne.2 g1
              go_wp2_with fail
              refine C.out.mono ?_
              rintro e w7 ⟨rfl, hb7⟩
              have HBX7 : Hid (Below W0.heap.size W0 w7) := HBX1.out.trans (hb7.mono HBX1.out.size)
              clear C hb7 HBX1 j0 j1
              cases Y with
              | false =>
                have HF : Hid (false = ((okA q && joinOkP q) && (q.i.take (i + 1)).all itemOkP)) := HNX.out false (by rw [HIT.out, decide_eq_true (show gi ≠ 1 from g1)]; simp)
                clear HNX HIT
                go_wp2_with fail
                go_roundg g'
                case measure => omega
                case rel => exact ⟨i + 1, false, rfl, by go_num, by omega, by omega, HBX7, HF⟩
              | true =>
                have HF : Hid (b = ((okA q && joinOkP q) && (q.i.take (i + 1)).all itemOkP)) := HNX.out b (by rw [HIT.out, decide_eq_false (show ¬ 5 ≤ gi by omega), decide_eq_false g1]; simp)
                clear HNX HIT
                go_wp2_with fail
                go_roundg g'
                case measure => omega
                case rel => exact ⟨i + 1, b, rfl, by go_num, by omega, by omega, HBX7, HF⟩
        · have z1 : ¬ (i : Int) < (ni : Int) := by omega
          have HB2 : Hid (b = ((okA q && joinOkP q) && q.i.all itemOkP)) := by
            have := HT.out
            rw [List.take_of_length_le (by rw [HN.out.1]; omega)] at this
            exact this
          obtain ⟨-, -, -, -, -, -, f6c, -⟩ := HL.out wr HBX.out
          clear HT
          go_wp2_with fail
          go_loopg [3, 119] ng (fun gf s3 s119 wx => ∃ (i : Nat) (b' : Bool), s3 = .bool b' ∧ s119 = .int .i64 i ∧ i ≤ ng ∧ ng ≤ i + gf ∧ Hid (Below W0.heap.size W0 wx) ∧ Hid (b' = (((okA q && joinOkP q) && q.i.all itemOkP) && (q.g.take i).all isColP)))
          case atStart => exact ⟨0, b, rfl, rfl, by omega, by omega, HBX, by show _ = _; rw [HB2.out]; simp⟩
          case round =>
            clear HB2 HBX f6c
            obtain ⟨k, b2, rfl, rfl, hk1, hkf, HBX, HT⟩ := hrel
            by_cases hk : k < ng
            · obtain ⟨g', rfl⟩ : ∃ g', gk = g' + 1 := ⟨gk - 1, by omega⟩
              have hkq : k < q.g.length := by rw [HN.out.2.2]; exact hk
              have hls := HQ.out.lg.mono mStrW (fun _ h => h) (kept_of HK0.out HBX.out)
              obtain ⟨bb, o, hq, _, hc⟩ := str_w hls (by omega)
              have hlen := str_len_w HQ.out.lg k hkq
              subst hq
              have hcell := hc k hkq
              have htk : q.g.take (k + 1) = q.g.take k ++ [q.g[k]] := by rw [List.take_add_one, List.getElem?_eq_getElem hkq]; rfl
              obtain ⟨y, hy⟩ : ∃ y, q.g[k] = y := ⟨_, rfl⟩
              rw [hy] at hcell hlen htk
              obtain ⟨S, hS⟩ : ∃ S : ByteArray, (⟨y.toArray⟩ : ByteArray) = S := ⟨_, rfl⟩
              have hSl : S.data.toList = y := by rw [← hS]
              rw [hS] at hcell
              obtain ⟨Y, hY⟩ : ∃ Y, isColP y = Y := ⟨_, rfl⟩
              have C : Hid (Calls Tryz.prog 24 #[.string S] wr fun e w' => e = .returned (.bool Y) ∧ Below wr.heap.size wr w') := by
                have h3 : S.data.toList.length = S.size := by simp
                rw [hSl] at h3
                have := colR_any S wr (by omega)
                rw [hSl, hY] at this
                exact this
              have HNX : Hid (∀ b' : Bool, b' = (b2 && Y) → b' = (((okA q && joinOkP q) && q.i.all itemOkP) && (q.g.take (k + 1)).all isColP)) := fun b' hb' => by
                rw [hb', HT.out, htk, List.all_append]
                simp [Bool.and_assoc, hY]
              have z0 : (0 : Int) ≤ (k : Int) := by omega
              have z2 : (k : Int) < (ng : Int) := by omega
              clear hc hls hy hlen hS hSl hY HT hkq htk
              cases b2 with
              | false =>
                have HF := hid (HNX.out false rfl)
                clear HNX C
                go_wp2_with fail
                go_roundg g'
                case measure => omega
                case rel => exact ⟨k + 1, false, rfl, by go_num, by omega, by omega, HBX, HF⟩
              | true =>
                have HF := hid (HNX.out Y rfl)
                clear HNX
                go_wp2_with fail
                refine C.out.mono ?_
                rintro e w8 ⟨rfl, hb8⟩
                have HBX8 : Hid (Below W0.heap.size W0 w8) := HBX.out.trans (hb8.mono HBX.out.size)
                clear C hb8 HBX hcell
                go_wp2_with fail
                go_roundg g'
                case measure => omega
                case rel => exact ⟨k + 1, Y, rfl, by go_num, by omega, by omega, HBX8, HF⟩
            · have z2 : ¬ (k : Int) < (ng : Int) := by omega
              have HB3 : Hid (b2 = (((okA q && joinOkP q) && q.i.all itemOkP) && q.g.all isColP)) := by
                have := HT.out
                rw [List.take_of_length_le (by rw [HN.out.2.2]; omega)] at this
                exact this
              have HBW := hid (HL.out wr HBX.out).2.2.2.2.2.2.2
              clear HT HL HBX HQ
              cases b2 with
              | false =>
                have HE : Hid (RES = 13) := by show _ = _; rw [HALL.out, ← HB3.out]; rfl
                clear HALL HB3
                go_wp2_with fail
                go_ret
                exact ⟨by rw [HE.out]; rfl, HBW.out⟩
              | true =>
                have HE : Hid (RES = 0) := by show _ = _; rw [HALL.out, ← HB3.out]; rfl
                clear HALL HB3
                go_wp2_with fail
                go_ret
                exact ⟨by rw [HE.out]; rfl, HBW.out⟩
end Go.Proofs.YtnmmojhbcnlboaaGreatDoor.Rf
/- What the reference's Number writes. -/
namespace Go.Proofs.YtnmmojhbcnlboaaGreatDoor.Rf
open Go.Shelf Go.RowKit Go.Lib Go.Sort
set_option linter.unusedVariables false
set_option linter.unusedSimpArgs false
theorem dec_step (u : Nat) (acc : List UInt8) : (if u / 10 = 0 then [] else Lib.decDigits (u / 10)) ++ UInt8.ofNat (48 + u % 10) :: acc = Lib.decDigits u ++ acc := by
  by_cases h10 : u < 10
  · rw [if_pos (by omega), Lib.decDigits_one h10, Nat.mod_eq_of_lt h10]
    rfl
  · rw [if_neg (by omega)]
    conv => rhs; rw [Lib.decDigits, dif_neg h10]
    simp
theorem digit_at (d : Nat) (h : d < 10) : (⟨#[48, 49, 50, 51, 52, 53, 54, 55, 56, 57]⟩ : ByteArray).extract d (d + 1) = ⟨#[UInt8.ofNat (48 + d)]⟩ := by
  match d, h with
  | 0, _ => rfl
  | 1, _ => rfl
  | 2, _ => rfl
  | 3, _ => rfl
  | 4, _ => rfl
  | 5, _ => rfl
  | 6, _ => rfl
  | 7, _ => rfl
  | 8, _ => rfl
  | 9, _ => rfl
theorem cat_str (a b : List UInt8) : (⟨a.toArray⟩ : ByteArray) ++ ⟨b.toArray⟩ = ⟨(a ++ b).toArray⟩ := by
  apply ByteArray.ext
  apply Array.toList_inj.1
  simp
theorem nDig_le {n : Int} (h0 : -9223372036854775808 ≤ n) (h1 : n ≤ 9223372036854775807) : Lib.nDigits n.natAbs ≤ 21 := by
  have h := Lib.itoa_length_le n h0 h1
  unfold Lib.itoa at h
  split at h
  · rw [List.length_cons, Lib.decDigits_length] at h; omega
  · rw [Lib.decDigits_length] at h
    have : n.natAbs = n.toNat := by omega
    rw [this]; exact h
/-- How many digits are still to be written. -/
def digLeft (u : Nat) (acc : List UInt8) : Nat := if u = 0 ∧ acc ≠ [] then 0 else Lib.nDigits u
def digRest (u : Nat) (acc : List UInt8) : List UInt8 := if u = 0 ∧ acc ≠ [] then [] else Lib.decDigits u
theorem rest_step (v : Nat) (acc : List UInt8) (h : ¬ (v = 0 ∧ acc ≠ [])) : digRest (v / 10) (UInt8.ofNat (48 + v % 10) :: acc) ++ UInt8.ofNat (48 + v % 10) :: acc = digRest v acc ++ acc := by
  unfold digRest
  rw [if_neg h, ← dec_step v acc]
  by_cases h0 : v / 10 = 0
  · rw [if_pos ⟨h0, by simp⟩, if_pos h0]
  · rw [if_neg (fun x => h0 x.1), if_neg h0]
theorem left_step (v g : Nat) (acc : List UInt8) (h : ¬ (v = 0 ∧ acc ≠ [])) (hg : digLeft v acc ≤ g + 1) : digLeft (v / 10) (UInt8.ofNat (48 + v % 10) :: acc) ≤ g := by
  unfold digLeft at hg ⊢
  rw [if_neg h] at hg
  by_cases h0 : v / 10 = 0
  · rw [if_pos ⟨h0, by simp⟩]; omega
  · rw [if_neg (fun x => h0 x.1)]
    rw [Lib.nDigits_big (by omega)] at hg
    omega
theorem size_mk' (d : List UInt8) : (⟨d.toArray⟩ : ByteArray).size = d.length := by show d.toArray.size = _; simp
theorem wrap_neg (u : Nat) (h1 : 1 ≤ u) (h2 : u ≤ 9223372036854775808) : IntKind.u64.wrap (-IntKind.u64.wrap (-(u : Int))) = (u : Int) := by
  have h3 : IntKind.u64.wrap (-(u : Int)) = 18446744073709551616 - (u : Int) := by
    have h : (-(u : Int)) % 18446744073709551616 = 18446744073709551616 - (u : Int) := by omega
    exact h
  rw [h3]
  have h : (-(18446744073709551616 - (u : Int))) % 18446744073709551616 = (u : Int) := by omega
  exact h
set_option maxRecDepth 100000 in
set_option maxHeartbeats 4000000 in
theorem numberT_any (n : Int) (w : World) (h0 : -9223372036854775808 ≤ n) (h1 : n ≤ 9223372036854775807) :
    Calls Tryz.prog 19 #[.int .i64 n] w fun e w' => e = .returned (.string ⟨(Lib.itoa n).toArray⟩) ∧ w' = w := by
  have hnd := nDig_le h0 h1
  by_cases hneg : n < 0
  · obtain ⟨u, rfl⟩ : ∃ u : Nat, n = -(u : Int) := ⟨n.natAbs, by omega⟩
    have hu1 : 1 ≤ u := by omega
    have hu2 : u ≤ 9223372036854775808 := by omega
    have hni : (-(u : Int)).natAbs = u := by omega
    rw [hni] at hnd
    rw [Lib.itoa_neg u hu1]
    have WN : Hid (IntKind.u64.wrap (-IntKind.u64.wrap (-(u : Int))) = (u : Int)) := wrap_neg u hu1 hu2
    have tn : (-(u : Int)) < 0 := by omega
    clear hni h0 h1 hneg
    go_enter Tryz.func19, Tryz.ntmps19
    go_wp2_with fail
    go_loopg [3, 4] 22 (fun gf s3 s4 wx => ∃ (v : Nat) (acc : List UInt8), s3 = .int .u64 v ∧ s4 = .string ⟨acc.toArray⟩ ∧ wx = w ∧ v ≤ 9223372036854775808 ∧ acc.length ≤ 21 ∧ Hid (digRest v acc ++ acc = Lib.decDigits u) ∧ digLeft v acc ≤ gf)
    case atStart => exact ⟨u, [], by rw [WN.out], rfl, rfl, by omega, by simp, (by show _ = _; simp [digRest]), by simp [digLeft]; omega⟩
    case round =>
      obtain ⟨v, acc, rfl, rfl, rfl, hv, hal, HR, hlf⟩ := hrel
      by_cases hb : v = 0 ∧ acc ≠ []
      · obtain ⟨rfl, hne⟩ := hb
        have hA : acc = Lib.decDigits u := by have := HR.out; unfold digRest at this; rwa [if_pos ⟨rfl, hne⟩] at this
        obtain ⟨c0, m, rfl⟩ : ∃ c m, acc = c :: m := by cases acc with
          | nil => exact absurd rfl hne
          | cons c m => exact ⟨c, m, rfl⟩
        have HA : Hid (c0 :: m = Lib.decDigits u) := hA
        have tne : ((⟨(c0 :: m).toArray⟩ : ByteArray).toList == []) = false := by
          have := ByteArray.toList_eq (⟨(c0 :: m).toArray⟩ : ByteArray)
          rw [this]
          rfl
        have hsz := size_mk' (c0 :: m)
        have z1 : ¬ 9223372036854775807 < (⟨#[45]⟩ : ByteArray).size + (⟨(c0 :: m).toArray⟩ : ByteArray).size := by rw [hsz]; show ¬ _ < 1 + _; omega
        obtain ⟨S, hS⟩ : ∃ S, (⟨(c0 :: m).toArray⟩ : ByteArray) = S := ⟨_, rfl⟩
        rw [hS] at tne z1 ⊢
        have HS : Hid ((⟨(c0 :: m).toArray⟩ : ByteArray) = S) := hS
        clear HR hlf hA hne hsz hS hal
        go_wp2_with fail
        go_ret
        refine ⟨?_, rfl⟩
        rw [← HS.out, HA.out]
        exact congrArg (fun x => Ending.returned (.string x)) (cat_str [45] (Lib.decDigits u))
      · obtain ⟨g', rfl⟩ : ∃ g', gk = g' + 1 := ⟨gk - 1, by
          unfold digLeft at hlf
          rw [if_neg hb] at hlf
          have := Lib.nDigits_pos v
          omega⟩
        have HR2 : Hid (digRest (v / 10) (UInt8.ofNat (48 + v % 10) :: acc) ++ UInt8.ofNat (48 + v % 10) :: acc = Lib.decDigits u) := by
          show _ = _
          rw [rest_step v acc hb]; exact HR.out
        have hlf2 := left_step v g' acc hb hlf
        have hal2 : (UInt8.ofNat (48 + v % 10) :: acc).length ≤ 21 := by
          have := congrArg List.length HR2.out
          rw [List.length_append, Lib.decDigits_length] at this
          omega
        have hd := digit_at (v % 10) (by omega)
        have hsl : ∀ W, (Instr.slice 9 (.string ⟨#[48, 49, 50, 51, 52, 53, 54, 55, 56, 57]⟩) (some (.int .u64 ((v : Int) % 10))) (some (.int .u64 ((v : Int) % 10 + 1))) none).run Tryz.prog W = .ok (.string ⟨#[UInt8.ofNat (48 + v % 10)]⟩) W := fun W => by
          rw [run_slice_string (P := Tryz.prog) W 9 _ .u64 .u64 ((v : Int) % 10) ((v : Int) % 10 + 1) Tryz.underlying9 (by omega) (by omega) (by show _ ≤ (10 : Int); omega)]
          rw [show ((v : Int) % 10).toNat = v % 10 by omega, show ((v : Int) % 10 + 1).toNat = v % 10 + 1 by omega, hd]
        have hcat := cat_str [UInt8.ofNat (48 + v % 10)] acc
        have hsz := size_mk' acc
        have z1 : ¬ 9223372036854775807 < (⟨#[UInt8.ofNat (48 + v % 10)]⟩ : ByteArray).size + (⟨acc.toArray⟩ : ByteArray).size := by rw [hsz]; show ¬ _ < 1 + _; omega
        have te : ((⟨acc.toArray⟩ : ByteArray).toList == []) = decide (acc = []) := by
          have := ByteArray.toList_eq (⟨acc.toArray⟩ : ByteArray)
          rw [this]
          cases acc <;> rfl
        have tor : decide (acc = []) = true ∨ (decide (acc = []) = false ∧ (0 : Int) < (v : Int)) := by
          by_cases h : acc = []
          · exact .inl (by simp [h])
          · refine .inr ⟨by simp [h], ?_⟩
            by_cases h0 : v = 0
            · exact absurd ⟨h0, h⟩ hb
            · omega
        obtain ⟨S, hS⟩ : ∃ S, (⟨acc.toArray⟩ : ByteArray) = S := ⟨_, rfl⟩
        rw [hS] at hcat z1 te ⊢
        obtain ⟨Q, hQ⟩ : ∃ Q, (⟨#[UInt8.ofNat (48 + v % 10)]⟩ : ByteArray) = Q := ⟨_, rfl⟩
        rw [show (⟨[UInt8.ofNat (48 + v % 10)].toArray⟩ : ByteArray) = Q from hQ] at hcat
        rw [hQ] at z1 hsl
        have HC : Hid (Q ++ S = ⟨([UInt8.ofNat (48 + v % 10)] ++ acc).toArray⟩) := hcat
        clear HR hlf hd hsz hS hQ hcat hb
        rcases tor with t1 | ⟨t1, t2⟩
        all_goals
          rw [t1] at te
          clear t1
          go_wp2_with fail
          go_roundg g'
          case measure => omega
          case rel => exact ⟨v / 10, UInt8.ofNat (48 + v % 10) :: acc, by go_num, by rw [HC.out]; rfl, rfl, by omega, hal2, HR2, hlf2⟩
  · obtain ⟨u, rfl⟩ : ∃ u : Nat, n = (u : Int) := ⟨n.natAbs, by omega⟩
    have hu2 : u ≤ 9223372036854775807 := by omega
    have hni : ((u : Int)).natAbs = u := by omega
    rw [hni] at hnd
    rw [Lib.itoa_nonneg u]
    have WN : Hid (IntKind.u64.wrap (u : Int) = (u : Int)) := by
      have h : (u : Int) % 18446744073709551616 = (u : Int) := by omega
      exact h
    have tn : ¬ ((u : Int)) < 0 := by omega
    clear hni h0 h1 hneg
    go_enter Tryz.func19, Tryz.ntmps19
    go_wp2_with fail
    go_loopg [3, 4] 22 (fun gf s3 s4 wx => ∃ (v : Nat) (acc : List UInt8), s3 = .int .u64 v ∧ s4 = .string ⟨acc.toArray⟩ ∧ wx = w ∧ v ≤ 9223372036854775808 ∧ acc.length ≤ 21 ∧ Hid (digRest v acc ++ acc = Lib.decDigits u) ∧ digLeft v acc ≤ gf)
    case atStart => exact ⟨u, [], by first | rfl | rw [WN.out], rfl, rfl, by omega, by simp, (by show _ = _; simp [digRest]), by simp [digLeft]; omega⟩
    case round =>
      obtain ⟨v, acc, rfl, rfl, rfl, hv, hal, HR, hlf⟩ := hrel
      by_cases hb : v = 0 ∧ acc ≠ []
      · obtain ⟨rfl, hne⟩ := hb
        have hA : acc = Lib.decDigits u := by have := HR.out; unfold digRest at this; rwa [if_pos ⟨rfl, hne⟩] at this
        obtain ⟨c0, m, rfl⟩ : ∃ c m, acc = c :: m := by cases acc with
          | nil => exact absurd rfl hne
          | cons c m => exact ⟨c, m, rfl⟩
        have HA : Hid (c0 :: m = Lib.decDigits u) := hA
        have tne : ((⟨(c0 :: m).toArray⟩ : ByteArray).toList == []) = false := by
          have := ByteArray.toList_eq (⟨(c0 :: m).toArray⟩ : ByteArray)
          rw [this]
          rfl
        have hsz := size_mk' (c0 :: m)
        have z1 : ¬ 9223372036854775807 < (⟨#[45]⟩ : ByteArray).size + (⟨(c0 :: m).toArray⟩ : ByteArray).size := by rw [hsz]; show ¬ _ < 1 + _; omega
        obtain ⟨S, hS⟩ : ∃ S, (⟨(c0 :: m).toArray⟩ : ByteArray) = S := ⟨_, rfl⟩
        rw [hS] at tne z1 ⊢
        have HS : Hid ((⟨(c0 :: m).toArray⟩ : ByteArray) = S) := hS
        clear HR hlf hA hne hsz hS hal
        go_wp2_with fail
        go_ret
        refine ⟨?_, rfl⟩
        rw [← HS.out, HA.out]
        rfl
      · obtain ⟨g', rfl⟩ : ∃ g', gk = g' + 1 := ⟨gk - 1, by
          unfold digLeft at hlf
          rw [if_neg hb] at hlf
          have := Lib.nDigits_pos v
          omega⟩
        have HR2 : Hid (digRest (v / 10) (UInt8.ofNat (48 + v % 10) :: acc) ++ UInt8.ofNat (48 + v % 10) :: acc = Lib.decDigits u) := by
          show _ = _
          rw [rest_step v acc hb]; exact HR.out
        have hlf2 := left_step v g' acc hb hlf
        have hal2 : (UInt8.ofNat (48 + v % 10) :: acc).length ≤ 21 := by
          have := congrArg List.length HR2.out
          rw [List.length_append, Lib.decDigits_length] at this
          omega
        have hd := digit_at (v % 10) (by omega)
        have hsl : ∀ W, (Instr.slice 9 (.string ⟨#[48, 49, 50, 51, 52, 53, 54, 55, 56, 57]⟩) (some (.int .u64 ((v : Int) % 10))) (some (.int .u64 ((v : Int) % 10 + 1))) none).run Tryz.prog W = .ok (.string ⟨#[UInt8.ofNat (48 + v % 10)]⟩) W := fun W => by
          rw [run_slice_string (P := Tryz.prog) W 9 _ .u64 .u64 ((v : Int) % 10) ((v : Int) % 10 + 1) Tryz.underlying9 (by omega) (by omega) (by show _ ≤ (10 : Int); omega)]
          rw [show ((v : Int) % 10).toNat = v % 10 by omega, show ((v : Int) % 10 + 1).toNat = v % 10 + 1 by omega, hd]
        have hcat := cat_str [UInt8.ofNat (48 + v % 10)] acc
        have hsz := size_mk' acc
        have z1 : ¬ 9223372036854775807 < (⟨#[UInt8.ofNat (48 + v % 10)]⟩ : ByteArray).size + (⟨acc.toArray⟩ : ByteArray).size := by rw [hsz]; show ¬ _ < 1 + _; omega
        have te : ((⟨acc.toArray⟩ : ByteArray).toList == []) = decide (acc = []) := by
          have := ByteArray.toList_eq (⟨acc.toArray⟩ : ByteArray)
          rw [this]
          cases acc <;> rfl
        have tor : decide (acc = []) = true ∨ (decide (acc = []) = false ∧ (0 : Int) < (v : Int)) := by
          by_cases h : acc = []
          · exact .inl (by simp [h])
          · refine .inr ⟨by simp [h], ?_⟩
            by_cases h0 : v = 0
            · exact absurd ⟨h0, h⟩ hb
            · omega
        obtain ⟨S, hS⟩ : ∃ S, (⟨acc.toArray⟩ : ByteArray) = S := ⟨_, rfl⟩
        rw [hS] at hcat z1 te ⊢
        obtain ⟨Q, hQ⟩ : ∃ Q, (⟨#[UInt8.ofNat (48 + v % 10)]⟩ : ByteArray) = Q := ⟨_, rfl⟩
        rw [show (⟨[UInt8.ofNat (48 + v % 10)].toArray⟩ : ByteArray) = Q from hQ] at hcat
        rw [hQ] at z1 hsl
        have HC : Hid (Q ++ S = ⟨([UInt8.ofNat (48 + v % 10)] ++ acc).toArray⟩) := hcat
        clear HR hlf hd hsz hS hQ hcat hb
        rcases tor with t1 | ⟨t1, t2⟩
        all_goals
          rw [t1] at te
          clear t1
          go_wp2_with fail
          go_roundg g'
          case measure => omega
          case rel => exact ⟨v / 10, UInt8.ofNat (48 + v % 10) :: acc, by go_num, by rw [HC.out]; rfl, rfl, by omega, hal2, HR2, hlf2⟩
end Go.Proofs.YtnmmojhbcnlboaaGreatDoor.Rf
/- What the reference's Quoted writes. -/
namespace Go.Proofs.YtnmmojhbcnlboaaGreatDoor.Rf
open Go.Shelf Go.RowKit Go.Lib Go.Sort
set_option linter.unusedVariables false
set_option linter.unusedSimpArgs false
def hexB : ByteArray := ⟨#[48, 49, 50, 51, 52, 53, 54, 55, 56, 57, 97, 98, 99, 100, 101, 102]⟩
theorem hex_at (d : Nat) (h : d < 16) : hexB.extract d (d + 1) = ⟨#[hexDig d]⟩ := by
  match d, h with
  | 0, _ => rfl
  | 1, _ => rfl
  | 2, _ => rfl
  | 3, _ => rfl
  | 4, _ => rfl
  | 5, _ => rfl
  | 6, _ => rfl
  | 7, _ => rfl
  | 8, _ => rfl
  | 9, _ => rfl
  | 10, _ => rfl
  | 11, _ => rfl
  | 12, _ => rfl
  | 13, _ => rfl
  | 14, _ => rfl
  | 15, _ => rfl
  | n + 16, h => exact absurd h (by omega)
theorem hex_slice (d : Nat) (h : d < 16) (W : World) : (Instr.slice 9 (.string hexB) (some (.int .i32 (d : Int))) (some (.int .i32 ((d : Int) + 1))) none).run Tryz.prog W = .ok (.string ⟨#[hexDig d]⟩) W := by
  rw [run_slice_string (P := Tryz.prog) W 9 _ .i32 .i32 (d : Int) ((d : Int) + 1) Tryz.underlying9 (by omega) (by omega) (by show _ ≤ (16 : Int); omega)]
  rw [Int.toNat_natCast, show ((d : Int) + 1).toNat = d + 1 by omega, hex_at d h]
set_option maxRecDepth 100000 in
set_option maxHeartbeats 4000000 in
theorem quoteT_any (s : ByteArray) (w : World) (hs : s.size ≤ 140737488355328) :
    Calls Tryz.prog 20 #[.string s] w fun e w' => e = .returned (.string ⟨(quoteP s.data.toList).toArray⟩) ∧ Below w.heap.size w w' := by
  obtain ⟨tot, htot⟩ : ∃ t, quoteP s.data.toList = t := ⟨_, rfl⟩
  have HT : Hid (quoteP s.data.toList = tot) := htot
  rw [htot]
  clear htot
  go_enter Tryz.func20, Tryz.ntmps20
  go_wp2
  go_loopg [3] s.size (fun gf s3 wx => ∃ (pos : Nat) (acc : ByteArray), s3 = .string acc ∧ wx.heap[w.heap.size]? = some (.stringIter s pos) ∧ Below w.heap.size w wx ∧ Hid ([34] ++ acc.data.toList ++ quoteL (lets (s.data.toList.drop pos)) ++ [34] = tot) ∧ s.size ≤ pos + gf ∧ acc.size ≤ 6 * pos ∧ pos ≤ s.size)
  case atStart =>
    refine ⟨0, ⟨#[]⟩, rfl, World.iter_heap w s 0, (Below.refl _ _).alloc (Nat.le_refl _) _, ?_, by omega, by show 0 ≤ _; omega, by omega⟩
    show _ = _
    rw [← HT.out]
    simp [quoteP]
  case round =>
    obtain ⟨pos, acc, rfl, hit, hbw, HS, hb, hal, hps⟩ := hrel
    by_cases hp : pos < s.size
    · obtain ⟨g', rfl⟩ : ∃ g', gk = g' + 1 := ⟨gk - 1, by omega⟩
      have hnx : ∀ ty, (Instr.next (.pointer (some ⟨w.heap.size, 0, none⟩)) true ty).run Tryz.prog wr = _ := fun ty => Lib.run_next_any_at wr w.heap.size s pos ty hit hp
      have hne : s.data.toList.drop pos ≠ [] := by
        intro e
        have := congrArg List.length e
        rw [List.length_drop, ← Lib.size_eq] at this
        simp at this
        omega
      have hwd := Lib.width_pos s pos
      have hwl : pos + (Utf8.decode s pos).2 ≤ s.size := by
        have := Lib.decodeL_le _ hne
        rw [List.length_drop, ← Lib.size_eq, Lib.decodeL_drop] at this
        omega
      have hhi := decodeL_hi (s.data.toList.drop pos)
      have hok := okR_of (s.data.toList.drop pos)
      have hS := HS.out
      rw [lets_cons _ hne, List.drop_drop, quoteL, List.flatMap_cons, ← quoteL, ← List.append_assoc] at hS
      rw [Lib.decodeL_drop] at hS hhi hok
      obtain ⟨R, hR⟩ : ∃ R, (Utf8.decode s pos).1 = R := ⟨_, rfl⟩
      obtain ⟨K, hK⟩ : ∃ K, (Utf8.decode s pos).2 = K := ⟨_, rfl⟩
      rw [hR, hK] at hnx hS
      rw [hR] at hhi hok
      rw [hK] at hwd hwl
      have hit2 := Lib.iterAt_heap wr w.heap.size s pos (pos + K) hit
      have hbw2 := Lib.below_iterAt hbw (k := w.heap.size) (Nat.le_refl _) s (pos + K)
      obtain ⟨W1, hW1⟩ : ∃ W1, wr.iterAt w.heap.size s (pos + K) = W1 := ⟨_, rfl⟩
      rw [hW1] at hnx hit2 hbw2
      have HS2 : Hid ([34] ++ acc.data.toList ++ qR (R : Int) ++ quoteL (lets (s.data.toList.drop (pos + K))) ++ [34] = tot) := hS
      have hq6 := qR_len (R : Int)
      have HQ6 : Hid ((qR (R : Int)).length ≤ 6) := hq6
      have HIT2 : Hid (W1.heap[w.heap.size]? = some (.stringIter s (pos + K))) := hit2
      have HBW2 : Hid (Below w.heap.size w W1) := hbw2
      have HE : Hid (Lib.encodeRune (R : Int) = (Utf8.encode (R : Int)).data.toList) := encR_eq R hok
      obtain ⟨he1, he2⟩ := enc_some (R : Int)
      obtain ⟨E, hE⟩ : ∃ E, Utf8.encode (R : Int) = E := ⟨_, rfl⟩
      rw [hE] at HE he1 he2
      have hcv : ∀ W, (convert 21 9 (.int .i32 (R : Int))).run Tryz.prog W = .ok (.string E) W := fun W => by
        rw [run_convert_int_string W 21 9 .i32 (R : Int) (by rw [Tryz.underlying21]; rfl) Tryz.underlying9, hE]
      have FIN : Hid (∀ X : ByteArray, X.data.toList = qR (R : Int) → Hid ([34] ++ (acc ++ X).data.toList ++ quoteL (lets (s.data.toList.drop (pos + K))) ++ [34] = tot) ∧ (acc ++ X).size ≤ 6 * (pos + K)) := fun X hX => by
        refine ⟨?_, ?_⟩
        · show _ = _
          rw [← HS2.out, ← hX]
          simp
        · rw [ByteArray.size_append, Lib.size_eq X, hX]
          omega
      have zA : acc.size ≤ 844424930131968 := by omega
      clear hW1 hit hbw hS hR hK hne HS HT hit2 hbw2 hq6 hE hok HS2
      by_cases hq : R = 34 ∨ R = 92
      · have eq : qR (R : Int) = 92 :: Lib.encodeRune R := by unfold qR; rw [if_pos (by omega)]
        have F := FIN.out (⟨#[92]⟩ ++ E) (by rw [eq, HE.out]; simp)
        have HF : Hid (Hid ([34] ++ (acc ++ (⟨#[92]⟩ ++ E)).data.toList ++ quoteL (lets (s.data.toList.drop (pos + K))) ++ [34] = tot) ∧ (acc ++ (⟨#[92]⟩ ++ E)).size ≤ 6 * (pos + K)) := F
        have z1 : ¬ 9223372036854775807 < 1 + E.size := by omega
        have z2 : ¬ 9223372036854775807 < acc.size + (1 + E.size) := by omega
        have tq : ((R : Int) == 34) = true ∨ (((R : Int) == 34) = false ∧ ((R : Int) == 92) = true) := by
          rcases hq with h | h
          · left; simp [h]
          · right; simp [h]
        clear hq F FIN eq HE
        rcases tq with tq | ⟨tq, tq2⟩
        all_goals
          go_wp2_with fail
          go_roundg g'
          case measure => omega
          case rel => exact ⟨pos + K, acc ++ (⟨#[92]⟩ ++ E), rfl, HIT2.out, HBW2.out, HF.out.1, by omega, HF.out.2, by omega⟩
      · have n1 : ((R : Int) == 34) = false := beq_eq_false_iff_ne.2 (by omega)
        have n2 : ((R : Int) == 92) = false := beq_eq_false_iff_ne.2 (by omega)
        by_cases h16 : R < 16
        · have t1 : (R : Int) < 16 := by omega
          have eq : qR (R : Int) = [92, 117, 123] ++ [hexDig R] ++ [125] := by unfold qR; rw [if_neg (by omega), if_pos (by omega)]; simp [hexS, h16]
          have hsl : ∀ W, (Instr.slice 9 (.string ⟨#[48, 49, 50, 51, 52, 53, 54, 55, 56, 57, 97, 98, 99, 100, 101, 102]⟩) (some (.int .i32 (R : Int))) (some (.int .i32 ((R : Int) + 1))) none).run Tryz.prog W = .ok (.string ⟨#[hexDig R]⟩) W := fun W => hex_slice R h16 W
          have hX : (((⟨#[92, 117, 123]⟩ : ByteArray) ++ ⟨#[hexDig R]⟩) ++ ⟨#[125]⟩).data.toList = qR (R : Int) := by rw [eq]; simp
          obtain ⟨D, hD⟩ : ∃ D, (⟨#[hexDig R]⟩ : ByteArray) = D := ⟨_, rfl⟩
          have hDs : D.size = 1 := by rw [← hD]; rfl
          rw [hD] at hX hsl
          have HF : Hid (Hid ([34] ++ (acc ++ (⟨#[92, 117, 123]⟩ ++ D ++ ⟨#[125]⟩)).data.toList ++ quoteL (lets (s.data.toList.drop (pos + K))) ++ [34] = tot) ∧ (acc ++ (⟨#[92, 117, 123]⟩ ++ D ++ ⟨#[125]⟩)).size ≤ 6 * (pos + K)) := FIN.out _ hX
          have z1 : ¬ 9223372036854775807 < 3 + D.size := by omega
          have z2 : ¬ 9223372036854775807 < 3 + D.size + 1 := by omega
          have z3 : ¬ 9223372036854775807 < acc.size + (3 + D.size + 1) := by omega
          clear eq FIN HE hD hDs hX hq h16
          go_wp2_with fail
          go_roundg g'
          case measure => omega
          case rel => exact ⟨pos + K, acc ++ (⟨#[92, 117, 123]⟩ ++ D ++ ⟨#[125]⟩), rfl, HIT2.out, HBW2.out, HF.out.1, by omega, HF.out.2, by omega⟩
        · have t1 : ¬ (R : Int) < 16 := by omega
          by_cases h32 : R < 32
          · have t2 : (R : Int) < 32 := by omega
            have eq : qR (R : Int) = [92, 117, 123, 49] ++ [hexDig (R - 16)] ++ [125] := by
              unfold qR; rw [if_neg (by omega), if_pos (by omega)]
              have e1 : R / 16 = 1 := by omega
              have e2 : R % 16 = R - 16 := by omega
              have e3 : hexDig 1 = 49 := by decide
              simp [hexS, h16, e1, e2, e3]
            have hsl : ∀ W, (Instr.slice 9 (.string ⟨#[48, 49, 50, 51, 52, 53, 54, 55, 56, 57, 97, 98, 99, 100, 101, 102]⟩) (some (.int .i32 ((R : Int) - 16))) (some (.int .i32 ((R : Int) - 15))) none).run Tryz.prog W = .ok (.string ⟨#[hexDig (R - 16)]⟩) W := fun W => by
              have := hex_slice (R - 16) (by omega) W
              rw [show ((R - 16 : Nat) : Int) = (R : Int) - 16 by omega, show (R : Int) - 16 + 1 = (R : Int) - 15 by omega] at this
              exact this
            have hX : (((⟨#[92, 117, 123, 49]⟩ : ByteArray) ++ ⟨#[hexDig (R - 16)]⟩) ++ ⟨#[125]⟩).data.toList = qR (R : Int) := by rw [eq]; simp
            obtain ⟨D, hD⟩ : ∃ D, (⟨#[hexDig (R - 16)]⟩ : ByteArray) = D := ⟨_, rfl⟩
            have hDs : D.size = 1 := by rw [← hD]; rfl
            rw [hD] at hX hsl
            have HF : Hid (Hid ([34] ++ (acc ++ (⟨#[92, 117, 123, 49]⟩ ++ D ++ ⟨#[125]⟩)).data.toList ++ quoteL (lets (s.data.toList.drop (pos + K))) ++ [34] = tot) ∧ (acc ++ (⟨#[92, 117, 123, 49]⟩ ++ D ++ ⟨#[125]⟩)).size ≤ 6 * (pos + K)) := FIN.out _ hX
            have z1 : ¬ 9223372036854775807 < 4 + D.size := by omega
            have z2 : ¬ 9223372036854775807 < 4 + D.size + 1 := by omega
            have z3 : ¬ 9223372036854775807 < acc.size + (4 + D.size + 1) := by omega
            clear eq FIN HE hD hDs hX hq
            go_wp2_with fail
            go_roundg g'
            case measure => omega
            case rel => exact ⟨pos + K, acc ++ (⟨#[92, 117, 123, 49]⟩ ++ D ++ ⟨#[125]⟩), rfl, HIT2.out, HBW2.out, HF.out.1, by omega, HF.out.2, by omega⟩
          · have t2 : ¬ (R : Int) < 32 := by omega
            by_cases h127 : R = 127
            · subst h127
              have eq : qR ((127 : Nat) : Int) = [92, 117, 123, 55, 102, 125] := by decide
              have HF : Hid (Hid ([34] ++ (acc ++ ⟨#[92, 117, 123, 55, 102, 125]⟩).data.toList ++ quoteL (lets (s.data.toList.drop (pos + K))) ++ [34] = tot) ∧ (acc ++ ⟨#[92, 117, 123, 55, 102, 125]⟩).size ≤ 6 * (pos + K)) := FIN.out ⟨#[92, 117, 123, 55, 102, 125]⟩ (by rw [eq])
              have z1 : ¬ 9223372036854775807 < acc.size + 6 := by omega
              clear eq FIN HE hq n1 n2 t1 t2 h16 h32
              go_wp2_with fail
              go_roundg g'
              case measure => omega
              case rel => exact ⟨pos + K, acc ++ ⟨#[92, 117, 123, 55, 102, 125]⟩, rfl, HIT2.out, HBW2.out, HF.out.1, by omega, HF.out.2, by omega⟩
            · have n3 : ((R : Int) == 127) = false := beq_eq_false_iff_ne.2 (by omega)
              have eq : qR (R : Int) = Lib.encodeRune R := by unfold qR; rw [if_neg (by omega), if_neg (by omega)]
              have HF : Hid (Hid ([34] ++ (acc ++ E).data.toList ++ quoteL (lets (s.data.toList.drop (pos + K))) ++ [34] = tot) ∧ (acc ++ E).size ≤ 6 * (pos + K)) := FIN.out E (by rw [eq, HE.out])
              have z1 : ¬ 9223372036854775807 < acc.size + E.size := by omega
              clear eq FIN HE hq
              go_wp2_with fail
              go_roundg g'
              case measure => omega
              case rel => exact ⟨pos + K, acc ++ E, rfl, HIT2.out, HBW2.out, HF.out.1, by omega, HF.out.2, by omega⟩
    · have hnx : ∀ ty, (Instr.next (.pointer (some ⟨w.heap.size, 0, none⟩)) true ty).run Tryz.prog wr = _ := fun ty => Lib.run_next_end_at wr w.heap.size s pos ty hit (by omega)
      have HE : Hid ((⟨#[34]⟩ ++ acc) ++ ⟨#[34]⟩ = (⟨tot.toArray⟩ : ByteArray)) := by
        show _ = _
        have := HS.out
        rw [List.drop_of_length_le (by rw [← Lib.size_eq]; omega), lets_nil] at this
        apply ByteArray.ext
        apply Array.toList_inj.1
        rw [← this]
        simp [quoteL]
      have z1 : ¬ 9223372036854775807 < 1 + acc.size := by omega
      have z2 : ¬ 9223372036854775807 < 1 + acc.size + 1 := by omega
      have HB : Hid (Below w.heap.size w wr) := hbw
      clear HS HT hbw
      go_wp2_with fail
      go_ret
      refine ⟨?_, HB.out⟩
      rw [← HE.out]
      rfl
end Go.Proofs.YtnmmojhbcnlboaaGreatDoor.Rf
/- What the reference's operators and word answer. -/
namespace Go.Proofs.YtnmmojhbcnlboaaGreatDoor.Rf
open Go.Shelf Go.RowKit Go.Lib Go.Sort
set_option linter.unusedVariables false
set_option linter.unusedSimpArgs false
attribute [local go_sem ↓] Go.wp_at_zero Go.wp_at_succ
def opsP : List (List UInt8) := (wordsP.drop 3).map (·.1)
theorem ops_at (k : Nat) (h7 : 7 ≤ k) (h22 : k < 22) : opsP[k - 7]? = some (stepTextP k) := by
  have h : ∀ j : Fin 22, 7 ≤ j.1 → opsP[j.1 - 7]? = some (stepTextP j.1) := by decide +kernel
  exact h ⟨k, h22⟩ h7
set_option maxRecDepth 100000 in
set_option maxHeartbeats 4000000 in
theorem ops_any (w : World) : Calls Tryz.prog 21 #[] w fun e w' => e = .returned (.slice (some ⟨w.heap.size, 0, none⟩) 15 15) ∧ w' = w.alloc (.cells (strV opsP).toArray 9) := by
  obtain ⟨W, hW⟩ : ∃ W, w.alloc (.cells (strV opsP).toArray 9) = W := ⟨_, rfl⟩
  have hW2 : w.alloc (.cells #[.string ⟨#[110, 101, 103]⟩, .string ⟨#[110, 111, 116]⟩, .string ⟨#[110, 117, 108, 108, 63]⟩, .string ⟨#[108, 101, 110, 103, 116, 104]⟩, .string ⟨#[43]⟩, .string ⟨#[45]⟩, .string ⟨#[42]⟩, .string ⟨#[61]⟩, .string ⟨#[60, 62]⟩, .string ⟨#[60]⟩, .string ⟨#[60, 61]⟩, .string ⟨#[62]⟩, .string ⟨#[62, 61]⟩, .string ⟨#[97, 110, 100]⟩, .string ⟨#[111, 114]⟩] 9) = W := hW
  rw [hW]
  clear hW
  go_enter Tryz.func21, Tryz.ntmps21
  go_wp2_with fail
  go_ret
  exact ⟨rfl, rfl⟩
def aggsL : List (List UInt8) := [[], [99, 111, 117, 110, 116], [115, 117, 109], [109, 105, 110], [109, 97, 120]]
theorem aggs_at (k : Nat) (h1 : 1 ≤ k) (h5 : k < 5) : aggsL[k]? = some (aggTextP k) := by
  have h : ∀ j : Fin 5, 1 ≤ j.1 → aggsL[j.1]? = some (aggTextP j.1) := by decide +kernel
  exact h ⟨k, h5⟩ h1
set_option maxRecDepth 100000 in
set_option maxHeartbeats 4000000 in
theorem word_any (k : Nat) (h1 : 1 ≤ k) (h5 : k < 5) (w : World) : Calls Tryz.prog 18 #[.int .u8 (k : Int)] w fun e w' => e = .returned (.string ⟨(aggTextP k).toArray⟩) ∧ Below w.heap.size w w' := by
  obtain ⟨W, hW⟩ : ∃ W, w.alloc (.cells (strV aggsL).toArray 9) = W := ⟨_, rfl⟩
  have hW2 : w.alloc (.cells #[.string ⟨#[]⟩, .string ⟨#[99, 111, 117, 110, 116]⟩, .string ⟨#[115, 117, 109]⟩, .string ⟨#[109, 105, 110]⟩, .string ⟨#[109, 97, 120]⟩] 9) = W := hW
  have hb : Below w.heap.size w W := by rw [← hW]; exact below_alloc _ _
  have hg : W.heap[w.heap.size]? = some (.cells (strV aggsL).toArray 9 (0, 0)) := by rw [← hW]; exact heap_alloc_new w _
  obtain ⟨S, hS⟩ : ∃ S : ByteArray, (⟨(aggTextP k).toArray⟩ : ByteArray) = S := ⟨_, rfl⟩
  have hc : W.cell? ⟨w.heap.size, k, none⟩ = some (.string S) := by
    refine cell_of_row hg ?_
    have := aggs_at k h1 h5
    rw [← hS]
    simp only [strV, List.getElem?_toArray, List.getElem?_map, this]
    rfl
  have z0 : (0 : Int) ≤ (k : Int) := by omega
  have z1 : (k : Int) < 5 := by omega
  have HB := hid hb
  rw [hS]
  clear hW hb hg hS
  go_enter Tryz.func18, Tryz.ntmps18
  go_wp2_with fail
  go_ret
  exact ⟨rfl, HB.out⟩
end Go.Proofs.YtnmmojhbcnlboaaGreatDoor.Rf
