/- What the reference's Utf and Check answer: what Check answers. -/
import Derived.Test.YthfoijnjgdeaaaaDoorUtfB
import Derived.Lib.ValidLaws
namespace Go.Proofs.YthfoijnjgdeaaaaDoor
open Go.RowKit Go.Lib
set_option linter.unusedVariables false
attribute [local go_sem ↓] Go.wp_at_zero Go.wp_at_succ

/-- A rune 65533 is a bad one just if it is not spelled with its own three bytes. -/
theorem bad_iff (l : List UInt8) (hne : l ≠ []) (h : (decodeL l).1 = 65533) : (decodeL l).2 = 1 ↔ l.take 3 ≠ [239, 191, 189] := by
  constructor
  · intro h1 e
    have hl : l = [239, 191, 189] ++ l.drop 3 := by rw [← e, List.take_append_drop]
    have hd : decodeL [239, 191, 189] = (65533, 3) := by decide +kernel
    rw [hl, decodeL_app _ _ (by simp) (by rw [hd]; decide), hd] at h1
    cases h1
  · intro hn
    by_cases h1 : (decodeL l).2 = 1
    · exact h1
    · exfalso
      apply hn
      have t := Lib.encode_decode l hne (fun x => h1 x.2)
      have hk := Lib.decodeL_le l hne
      rw [h] at t
      have t2 : [239, 191, 189] = l.take (decodeL l).2 := by rw [← t]; decide +kernel
      have hlen := congrArg List.length t2
      rw [List.length_take] at hlen
      simp at hlen
      rw [show (3 : Nat) = (decodeL l).2 by omega]
      exact t2.symm
theorem bare_iff (k : Int) (b : Bool) (n : Int) (s : ByteArray) : sameV ⟨k, b, n, s⟩ (Val.bare ⟨k, b, n, s⟩) = true ↔ (k = 1 ∨ b = false) ∧ (k = 2 ∨ n = 0) ∧ (k = 3 ∨ s.size = 0) := by
  have hs : s.size = 0 ↔ s = ⟨#[]⟩ := by
    constructor
    · intro h
      apply ByteArray.ext
      exact Array.eq_empty_of_size_eq_zero h
    · rintro rfl; rfl
  rw [sameV_iff, hs]
  simp only [Val.bare, Val.mk.injEq, true_and]
  refine and_congr ?_ (and_congr ?_ ?_)
  · by_cases h : k = 1 <;> simp [h]
  · by_cases h : k = 2 <;> simp [h]
  · by_cases h : k = 3 <;> simp [h]
theorem chk_typ (k : Int) (b : Bool) (n : Int) (s : ByteArray) (h : 4 ≤ k ∨ (k ≠ 1 ∧ b = true) ∨ (k ≠ 2 ∧ n ≠ 0) ∨ (k ≠ 3 ∧ s.size ≠ 0)) : chkV ⟨k, b, n, s⟩ = 5 := by
  unfold chkV
  rw [if_pos]
  rcases h with h | h
  · exact .inl h
  · refine .inr ?_
    cases e : sameV ⟨k, b, n, s⟩ (Val.bare ⟨k, b, n, s⟩) with
    | false => rfl
    | true =>
      obtain ⟨h1, h2, h3⟩ := (bare_iff k b n s).1 e
      rcases h with ⟨a, c⟩ | ⟨a, c⟩ | ⟨a, c⟩
      · rcases h1 with h1 | h1
        · exact absurd h1 a
        · rw [c] at h1; cases h1
      · rcases h2 with h2 | h2
        · exact absurd h2 a
        · exact absurd h2 c
      · rcases h3 with h3 | h3
        · exact absurd h3 a
        · exact absurd h3 c
theorem chk_fit (k : Int) (b : Bool) (n : Int) (s : ByteArray) (h0 : ¬ 4 ≤ k) (h1 : k = 1 ∨ b = false) (h2 : k = 2 ∨ n = 0) (h3 : k = 3 ∨ s.size = 0) :
    chkV ⟨k, b, n, s⟩ = if 256 < s.size then 4 else if Lib.validD s.data.toList then 0 else 9 := by
  unfold chkV
  rw [if_neg]
  rintro (h | h)
  · exact h0 h
  · rw [(bare_iff k b n s).2 ⟨h1, h2, h3⟩] at h
    cases h
theorem three_list (s : ByteArray) (p : Nat) : (s.extract p (p + 3)).toList = (s.data.toList.drop p).take 3 := by
  rw [Lib.toList_data, ByteArray.data_extract, Array.toList_extract, List.extract_eq_take_drop]
  congr 1
  omega
theorem drop_ne (s : ByteArray) (pos : Nat) (h : pos < s.size) : s.data.toList.drop pos ≠ [] := by
  intro e
  have := congrArg List.length e
  rw [List.length_drop, ← Lib.size_eq] at this
  simp at this
  omega
set_option maxRecDepth 100000 in
set_option maxHeartbeats 2000000 in
theorem utf_core (s : ByteArray) (w : World) (hs : s.size ≤ 1048576) (T : Bool) (HT : Hid (Lib.validD s.data.toList = T)) :
    Calls Tryd.prog 80 #[.string s] w fun e w' => e = .returned (.bool T) ∧ Below w.heap.size w w' := by
  go_enter Tryd.func80, Tryd.ntmps80
  go_wp2
  go_loopg [] s.size (fun gf wx => ∃ pos : Nat, wx.heap[w.heap.size]? = some (.stringIter s pos) ∧ Below w.heap.size w wx ∧ Hid (Lib.validD (s.data.toList.drop pos) = T) ∧ s.size ≤ pos + gf)
  case atStart => exact ⟨0, World.iter_heap w s 0, (Below.refl _ w).alloc (Nat.le_refl _) _, HT, by omega⟩
  case round =>
    obtain ⟨pos, hit, hbw, HV, hfu⟩ := hrel
    by_cases hps : pos < s.size
    · obtain ⟨g', rfl⟩ : ∃ g', gk = g' + 1 := ⟨gk - 1, by omega⟩
      have hnx : ∀ ty, (Instr.next (.pointer (some ⟨w.heap.size, 0, none⟩)) true ty).run Tryd.prog wr = _ := fun ty => Lib.run_next_any_at wr w.heap.size s pos ty hit hps
      have hwd := Lib.width_pos s pos
      have hne := drop_ne s pos hps
      have hv := HV.out
      rw [Lib.validD_step _ hne, List.drop_drop] at hv
      have hbi := bad_iff _ hne
      rw [Lib.decodeL_drop] at hv hbi
      obtain ⟨R, hR⟩ : ∃ R, (Utf8.decode s pos).1 = R := ⟨_, rfl⟩
      obtain ⟨K, hK⟩ : ∃ K, (Utf8.decode s pos).2 = K := ⟨_, rfl⟩
      rw [hR, hK] at hnx hv hbi
      rw [hK] at hwd
      have h3 := three_list s pos
      have hlen : ((s.data.toList.drop pos).take 3).length = min 3 (s.size - pos) := by rw [List.length_take, List.length_drop, ← Lib.size_eq]
      have hit2 := Lib.iterAt_heap wr w.heap.size s pos (pos + K) hit
      have hbw2 := Lib.below_iterAt hbw (k := w.heap.size) (Nat.le_refl _) s (pos + K)
      obtain ⟨W, hWd⟩ : ∃ W, wr.iterAt w.heap.size s (pos + K) = W := ⟨_, rfl⟩
      rw [hWd] at hnx hit2 hbw2
      clear hWd hit hbw HV HT hR hK hne
      obtain ⟨L, hL⟩ : ∃ L, (s.data.toList.drop pos).take 3 = L := ⟨_, rfl⟩
      rw [hL] at h3 hbi hlen
      clear hL
      have goOn : ¬ (R = 65533 ∧ K = 1) → Hid (Lib.validD (s.data.toList.drop (pos + K)) = T) := fun h => by
        show _ = _
        rw [← hv, if_neg h]
      have stop : R = 65533 → K = 1 → T = false := fun a b => by rw [← hv, if_pos ⟨a, b⟩]
      have GO : Hid (¬ (R = 65533 ∧ K = 1) → Hid (Lib.validD (s.data.toList.drop (pos + K)) = T)) := goOn
      clear hv goOn
      by_cases hr : R = 65533
      · subst hr
        have hb := hbi rfl
        clear hbi
        by_cases hl3 : s.size < pos + 3
        · have hT : T = false := stop rfl (hb.2 (fun e => by rw [e] at hlen; simp at hlen; omega))
          subst hT
          have hgt : (s.size : Int) < (pos : Int) + 3 := by omega
          clear stop hb h3 hlen hl3 GO
          go_wp2
          go_ret
          exact ⟨rfl, hbw2⟩
        · have hgt : ¬ (s.size : Int) < (pos : Int) + 3 := by omega
          have hsl : ∀ W, (Instr.slice 9 (.string s) (some (.int .i64 (pos : Int))) (some (.int .i64 ((pos : Int) + 3))) none).run Tryd.prog W = .ok (.string (s.extract pos (pos + 3))) W := fun W => by
            rw [run_slice_string (P := Tryd.prog) W 9 s .i64 .i64 (pos : Int) ((pos : Int) + 3) Tryd.underlying9 (by omega) (by omega) (by omega)]
            rw [Int.toNat_natCast, show ((pos : Int) + 3).toNat = pos + 3 by omega]
          by_cases he : L = [239, 191, 189]
          · have hK : ¬ K = 1 := fun e => (hb.1 e) he
            have HV2 := GO.out (fun e => hK e.2)
            have hx : (s.extract pos (pos + 3)).toList = [239, 191, 189] := by rw [h3, he]
            clear GO hb stop h3 hlen he hK
            go_wp2
            go_roundg g'
            case measure => omega
            case rel => exact ⟨pos + K, hit2, hbw2, HV2, by omega⟩
          · have hT : T = false := stop rfl (hb.2 he)
            subst hT
            have hx : ((s.extract pos (pos + 3)).toList == [239, 191, 189]) = false := by rw [h3]; exact beq_eq_false_iff_ne.2 he
            clear GO hb stop h3 hlen he
            go_wp2
            go_ret
            exact ⟨rfl, hbw2⟩
      · have hr2 : ((R : Int) == 65533) = false := beq_eq_false_iff_ne.2 (by omega)
        have HV2 := GO.out (fun e => hr e.1)
        clear GO hbi stop h3 hlen hr
        go_wp2
        go_roundg g'
        case measure => omega
        case rel => exact ⟨pos + K, hit2, hbw2, HV2, by omega⟩
    · have hnx : ∀ ty, (Instr.next (.pointer (some ⟨w.heap.size, 0, none⟩)) true ty).run Tryd.prog wr = _ := fun ty => Lib.run_next_end_at wr w.heap.size s pos ty hit hps
      have hT : T = true := by
        have := HV.out
        rw [List.drop_of_length_le (by rw [← Lib.size_eq]; omega), Lib.validD_nil] at this
        exact this.symm
      subst hT
      clear HV HT
      go_wp2
      go_ret
      exact ⟨rfl, hbw⟩
theorem utf_any (s : ByteArray) (w : World) (hs : s.size ≤ 1048576) :
    Calls Tryd.prog 80 #[.string s] w fun e w' => e = .returned (.bool (Lib.validD s.data.toList)) ∧ Below w.heap.size w w' :=
  utf_core s w hs _ (by show _ = _; rfl)
theorem empty_iff (s : ByteArray) : s.toList.isEmpty = true ↔ s.size = 0 := by
  rw [Lib.toList_data, Lib.size_eq]
  cases s.data.toList <;> simp
theorem full_of (s : ByteArray) (h : s.size ≠ 0) : s.toList.isEmpty = false := by
  cases e : s.toList.isEmpty with
  | false => rfl
  | true => exact absurd ((empty_iff s).1 e) h
set_option maxHeartbeats 4000000 in
theorem checkRef_typ (k : Int) (b : Bool) (n : Int) (s : ByteArray) (w : World) (h : 4 ≤ k ∨ (k ≠ 1 ∧ b = true) ∨ (k ≠ 2 ∧ n ≠ 0) ∨ (k ≠ 3 ∧ s.size ≠ 0)) :
    Calls Tryd.prog 81 #[.agg #[.int .u8 k, .bool b, .int .i64 n, .string s]] w fun e w' => e = .returned (.int .i64 5) ∧ Below w.heap.size w w' := by
  by_cases hk : 4 ≤ k
  · have hd : decide (4 ≤ k) = true := by simpa using hk
    clear h
    go_enter Tryd.func81, Tryd.ntmps81
    go_wp2
    go_ret
    exact ⟨rfl, (Below.refl _ _).alloc (Nat.le_refl _) _⟩
  have hd : decide (4 ≤ k) = false := by simpa using hk
  by_cases h1 : k ≠ 1 ∧ b = true
  · obtain ⟨h1, rfl⟩ := h1
    have t1 : (k != 1) = true := bne_iff_ne.2 h1
    clear h h1
    go_enter Tryd.func81, Tryd.ntmps81
    go_wp2
    go_ret
    exact ⟨rfl, (Below.refl _ _).alloc (Nat.le_refl _) _⟩
  by_cases h2 : k ≠ 2 ∧ n ≠ 0
  · obtain ⟨h2, hn⟩ := h2
    have t2 : (k != 2) = true := bne_iff_ne.2 h2
    have t3 : (n != 0) = true := bne_iff_ne.2 hn
    clear h h2 hn
    by_cases e1 : k = 1
    · subst e1
      clear h1 hd hk t2
      go_enter Tryd.func81, Tryd.ntmps81
      go_wp2
      go_ret
      exact ⟨rfl, (Below.refl _ _).alloc (Nat.le_refl _) _⟩
    · have t1 : (k != 1) = true := bne_iff_ne.2 e1
      have hb : b = false := by cases b with
        | false => rfl
        | true => exact absurd ⟨e1, rfl⟩ h1
      subst hb
      clear h1 e1
      go_enter Tryd.func81, Tryd.ntmps81
      go_wp2
      go_ret
      exact ⟨rfl, (Below.refl _ _).alloc (Nat.le_refl _) _⟩
  have h3 : k ≠ 3 ∧ s.size ≠ 0 := by
    rcases h with h | h | h | h
    · exact absurd h hk
    · exact absurd h h1
    · exact absurd h h2
    · exact h
  obtain ⟨h3, hs⟩ := h3
  have t4 : (k != 3) = true := bne_iff_ne.2 h3
  have t5 : s.toList.isEmpty = false := full_of s hs
  clear h h3 hs
  by_cases e1 : k = 1
  · subst e1
    have hn : n = 0 := by
      by_cases e : n = 0
      · exact e
      · exact absurd ⟨by decide, e⟩ h2
    subst hn
    clear h1 h2 hd hk t4
    go_enter Tryd.func81, Tryd.ntmps81
    go_wp2
    go_ret
    exact ⟨rfl, (Below.refl _ _).alloc (Nat.le_refl _) _⟩
  have t1 : (k != 1) = true := bne_iff_ne.2 e1
  have hb : b = false := by cases b with
    | false => rfl
    | true => exact absurd ⟨e1, rfl⟩ h1
  subst hb
  clear h1 e1
  by_cases e2 : k = 2
  · subst e2
    clear h2 hd hk t4 t1
    go_enter Tryd.func81, Tryd.ntmps81
    go_wp2
    go_ret
    exact ⟨rfl, (Below.refl _ _).alloc (Nat.le_refl _) _⟩
  have t2 : (k != 2) = true := bne_iff_ne.2 e2
  have hn : n = 0 := by
    by_cases e : n = 0
    · exact e
    · exact absurd ⟨e2, e⟩ h2
  subst hn
  clear h2 e2
  go_enter Tryd.func81, Tryd.ntmps81
  go_wp2
  go_ret
  exact ⟨rfl, (Below.refl _ _).alloc (Nat.le_refl _) _⟩
set_option maxHeartbeats 4000000 in
theorem checkRef_fit (k : Int) (b : Bool) (n : Int) (s : ByteArray) (w : World) (hs : s.size ≤ 1048576) (h0 : ¬ 4 ≤ k) (h1 : k = 1 ∨ b = false) (h2 : k = 2 ∨ n = 0) (h3 : k = 3 ∨ s.size = 0) (T : Bool) (HT : Hid (Lib.validD s.data.toList = T)) :
    Calls Tryd.prog 81 #[.agg #[.int .u8 k, .bool b, .int .i64 n, .string s]] w fun e w' => e = .returned (.int .i64 (if 256 < s.size then 4 else if T then 0 else 9)) ∧ Below w.heap.size w w' := by
  have CU : Hid (∀ W, Calls Tryd.prog 80 #[.string s] W fun e w' => e = .returned (.bool T) ∧ Below W.heap.size W w') := fun W => utf_core s W hs T HT
  have hd : decide (4 ≤ k) = false := by simpa using h0
  clear hs HT
  by_cases e3 : k = 3
  · subst e3
    have hb : b = false := by rcases h1 with h | h; · omega
                              · exact h
    have hn : n = 0 := by rcases h2 with h | h; · omega
                          · exact h
    subst hb hn
    clear h1 h2 h3 hd h0
    by_cases hl : 256 < s.size
    · have hl' : (256 : Int) < (s.size : Int) := by omega
      rw [if_pos hl]
      clear hl
      go_enter Tryd.func81, Tryd.ntmps81
      go_wp2
      go_ret
      exact ⟨rfl, (Below.refl _ _).alloc (Nat.le_refl _) _⟩
    · have hl' : ¬ (256 : Int) < (s.size : Int) := by omega
      rw [if_neg hl]
      clear hl
      cases T
      all_goals
        go_enter Tryd.func81, Tryd.ntmps81
        go_wp2_with (go_at_call 80; refine (CU.out _).mono ?_; rintro e w1 ⟨rfl, hb⟩)
        go_ret
        exact ⟨rfl, ((Below.refl _ _).alloc (Nat.le_refl _) _).trans (hb.mono (by simp))⟩
  have hz : s.size = 0 := by rcases h3 with h | h
                             · exact absurd h e3
                             · exact h
  have t4 : (k != 3) = true := bne_iff_ne.2 e3
  have t5 : s.toList.isEmpty = true := (empty_iff s).2 hz
  have hl' : ¬ (256 : Int) < (s.size : Int) := by omega
  rw [if_neg (by omega)]
  clear hz h3 e3
  by_cases e1 : k = 1
  · subst e1
    have hn : n = 0 := by rcases h2 with h | h; · omega
                          · exact h
    subst hn
    clear h1 h2 hd h0 t4
    cases T
    all_goals
      go_enter Tryd.func81, Tryd.ntmps81
      go_wp2_with (go_at_call 80; refine (CU.out _).mono ?_; rintro e w1 ⟨rfl, hb⟩)
      go_ret
      exact ⟨rfl, ((Below.refl _ _).alloc (Nat.le_refl _) _).trans (hb.mono (by simp))⟩
  have t1 : (k != 1) = true := bne_iff_ne.2 e1
  have hb : b = false := by rcases h1 with h | h
                            · exact absurd h e1
                            · exact h
  subst hb
  clear h1 e1
  by_cases e2 : k = 2
  · subst e2
    clear h2 hd h0 t4 t1
    cases T
    all_goals
      go_enter Tryd.func81, Tryd.ntmps81
      go_wp2_with (go_at_call 80; refine (CU.out _).mono ?_; rintro e w1 ⟨rfl, hb⟩)
      go_ret
      exact ⟨rfl, ((Below.refl _ _).alloc (Nat.le_refl _) _).trans (hb.mono (by simp))⟩
  have t2 : (k != 2) = true := bne_iff_ne.2 e2
  have hn : n = 0 := by rcases h2 with h | h
                        · exact absurd h e2
                        · exact h
  subst hn
  clear h2 e2
  cases T
  all_goals
    go_enter Tryd.func81, Tryd.ntmps81
    go_wp2_with (go_at_call 80; refine (CU.out _).mono ?_; rintro e w1 ⟨rfl, hb⟩)
    go_ret
    exact ⟨rfl, ((Below.refl _ _).alloc (Nat.le_refl _) _).trans (hb.mono (by simp))⟩
theorem checkRef_any (k : Int) (b : Bool) (n : Int) (s : ByteArray) (w : World) (hs : s.size ≤ 1048576) :
    Calls Tryd.prog 81 #[.agg #[.int .u8 k, .bool b, .int .i64 n, .string s]] w fun e w' => e = .returned (.int .i64 (chkV ⟨k, b, n, s⟩)) ∧ Below w.heap.size w w' := by
  by_cases h : 4 ≤ k ∨ (k ≠ 1 ∧ b = true) ∨ (k ≠ 2 ∧ n ≠ 0) ∨ (k ≠ 3 ∧ s.size ≠ 0)
  · rw [chk_typ k b n s h]
    exact checkRef_typ k b n s w h
  · have a0 : ¬ 4 ≤ k := fun x => h (.inl x)
    have a1 : k = 1 ∨ b = false := by
      by_cases e : k = 1
      · exact .inl e
      · refine .inr ?_
        cases b with
        | false => rfl
        | true => exact absurd (.inr (.inl ⟨e, rfl⟩)) h
    have a2 : k = 2 ∨ n = 0 := by
      by_cases e : k = 2
      · exact .inl e
      · by_cases e' : n = 0
        · exact .inr e'
        · exact absurd (.inr (.inr (.inl ⟨e, e'⟩))) h
    have a3 : k = 3 ∨ s.size = 0 := by
      by_cases e : k = 3
      · exact .inl e
      · by_cases e' : s.size = 0
        · exact .inr e'
        · exact absurd (.inr (.inr (.inr ⟨e, e'⟩))) h
    rw [chk_fit k b n s a0 a1 a2 a3]
    exact checkRef_fit k b n s w hs a0 a1 a2 a3 _ (by show _ = _; rfl)
end Go.Proofs.YthfoijnjgdeaaaaDoor
