/- Texts that are read as these tokens wherever they stand: words, numbers, texts, and brackets about them. No walk stands in this text. -/
import Derived.Test.YtnmmojhbcnlboaaGreatDoorRgRh
import Derived.Test.YtnmmojhbcnlboaaGreatDoorPtPu
namespace Go.Proofs.YtnmmojhbcnlboaaGreatDoor
open Go.RowKit Go.Lib
set_option linter.unusedVariables false
set_option linter.unusedSimpArgs false
/-- Letters that are read as these tokens, but for their places, wherever they stand. -/
def LexTo (A : List Let) (ks : List Tok) : Prop :=
  (∀ R, skipL false (A ++ R) = 0) ∧ A ≠ [] ∧ ks.length ≤ A.length ∧ ∀ (pre R : List Let) (f : Nat) (acc : List Tok), Ends R → ks.length ≤ f →
    ∃ ts, ts.map zeroA = ks ∧ lexGo (pre ++ (A ++ R)) f pre.length acc = lexGo (pre ++ (A ++ R)) (f - ks.length) (pre.length + A.length + skipL false R) (acc ++ ts)
theorem lexTo_solid {A : List Let} {t : Tok} (h : Solid A t) : LexTo A [zeroA t] := by
  refine ⟨h.1, h.2.1, List.length_pos_iff.2 h.2.1, fun pre R f acc hR hf => ⟨[{ t with a := (pre.length : Int) }], rfl, ?_⟩⟩
  obtain ⟨f, rfl⟩ : ∃ g, f = g + 1 := ⟨f - 1, by simp at hf; omega⟩
  have hpos : 0 < A.length := List.length_pos_iff.2 h.2.1
  have hd : (pre ++ (A ++ R)).drop pre.length = A ++ R := List.drop_left
  have htk := h.2.2 _ _ _ hR hd
  rw [lexGo_step _ _ _ _ (by simp; omega), htk]
  simp only [if_true, Int.toNat_natCast]
  have hd2 : (pre ++ (A ++ R)).drop (pre.length + A.length) = R := by
    rw [← List.drop_drop, hd]
    exact List.drop_left
  rw [hd2]
  rfl
theorem ends_sp (L : List Let) : Ends ((32, false) :: L) := .inr ⟨_, _, rfl, by decide⟩
theorem ends_cl (L : List Let) : Ends ((41, false) :: L) := .inr ⟨_, _, rfl, by decide⟩
theorem lexTo_sp {A B : List Let} {ks us : List Tok} (hA : LexTo A ks) (hB : LexTo B us) : LexTo (A ++ (32, false) :: B) (ks ++ us) := by
  obtain ⟨a1, a2, a3, a4⟩ := hA
  obtain ⟨b1, b2, b3, b4⟩ := hB
  refine ⟨fun R => by rw [List.append_assoc]; exact a1 _, by simp, by simp; omega, fun pre R f acc hR hf => ?_⟩
  simp only [List.length_append] at hf
  obtain ⟨t1, e1, g1⟩ := a4 pre ((32, false) :: (B ++ R)) f acc (ends_sp _) (by omega)
  have hs : skipL false ((32, false) :: (B ++ R)) = 1 := by simp [skipL, isBl, b1]
  rw [hs] at g1
  obtain ⟨t2, e2, g2⟩ := b4 (pre ++ (A ++ [(32, false)])) R (f - ks.length) (acc ++ t1) hR (by omega)
  have el : pre ++ (A ++ [(32, false)]) ++ (B ++ R) = pre ++ ((A ++ (32, false) :: B) ++ R) := by simp
  have em : pre ++ (A ++ (32, false) :: (B ++ R)) = pre ++ ((A ++ (32, false) :: B) ++ R) := by simp
  have en : (pre ++ (A ++ [((32 : Int), false)])).length = pre.length + A.length + 1 := by simp; omega
  rw [em] at g1
  rw [el, en] at g2
  refine ⟨t1 ++ t2, by rw [List.map_append, e1, e2], ?_⟩
  rw [g1, g2]
  have e3 : (A ++ ((32 : Int), false) :: B).length = A.length + 1 + B.length := by simp; omega
  rw [e3, List.length_append, List.append_assoc, show f - ks.length - us.length = f - (ks.length + us.length) by omega, show pre.length + A.length + 1 + B.length + skipL false R = pre.length + (A.length + 1 + B.length) + skipL false R by omega, List.append_assoc acc]
theorem lexTo_par {A : List Let} {ks : List Tok} (hA : LexTo A ks) : LexTo ((40, false) :: (A ++ [(41, false)])) (⟨1, [], 0, 0⟩ :: (ks ++ [⟨2, [], 0, 0⟩])) := by
  obtain ⟨a1, a2, a3, a4⟩ := hA
  refine ⟨fun R => by simp [skipL, isBl], by simp, by simp; omega, fun pre R f acc hR hf => ?_⟩
  simp only [List.length_cons, List.length_append, List.length_nil] at hf
  obtain ⟨f, rfl⟩ : ∃ g, f = g + 1 := ⟨f - 1, by omega⟩
  have ew : pre ++ ((40, false) :: (A ++ [(41, false)]) ++ R) = (pre ++ [(40, false)]) ++ (A ++ (41, false) :: R) := by simp
  have hd : (pre ++ ((40, false) :: (A ++ [(41, false)]) ++ R)).drop pre.length = (40, false) :: (A ++ [(41, false)]) ++ R := List.drop_left
  have htk : tokAns (pre ++ ((40, false) :: (A ++ [(41, false)]) ++ R)) pre.length = ⟨⟨1, [], 0, (pre.length : Int)⟩, (pre.length : Int) + 1, 0⟩ := by
    unfold tokAns
    rw [hd]
    rfl
  rw [lexGo_step _ _ _ _ (by simp), htk]
  simp only [if_true]
  have hn : ((pre.length : Int) + 1).toNat = pre.length + 1 := by omega
  have hd2 : (pre ++ ((40, false) :: (A ++ [(41, false)]) ++ R)).drop (pre.length + 1) = A ++ (41, false) :: R := by
    rw [← List.drop_drop, hd]
    simp
  rw [hn, hd2, a1, Nat.add_zero]
  obtain ⟨t1, e1, g1⟩ := a4 (pre ++ [(40, false)]) ((41, false) :: R) f (acc ++ [⟨1, [], 0, (pre.length : Int)⟩]) (ends_cl _) (by omega)
  have hs : skipL false (((41 : Int), false) :: R) = 0 := by simp [skipL, isBl]
  have hl1 : (pre ++ [((40 : Int), false)]).length = pre.length + 1 := by simp
  rw [← ew, hl1, hs] at g1
  simp only [Nat.add_zero] at g1
  rw [g1]
  obtain ⟨g, hg⟩ : ∃ g, f - ks.length = g + 1 := ⟨f - ks.length - 1, by omega⟩
  rw [hg]
  have hd3 : (pre ++ ((40, false) :: (A ++ [(41, false)]) ++ R)).drop (pre.length + 1 + A.length) = (41, false) :: R := by
    rw [← List.drop_drop, hd2]
    exact List.drop_left
  have htk2 : tokAns (pre ++ ((40, false) :: (A ++ [(41, false)]) ++ R)) (pre.length + 1 + A.length) = ⟨⟨2, [], 0, ((pre.length + 1 + A.length : Nat) : Int)⟩, ((pre.length + 1 + A.length : Nat) : Int) + 1, 0⟩ := by
    unfold tokAns
    rw [hd3]
    rfl
  rw [lexGo_step _ _ _ _ (by simp; omega), htk2]
  simp only [if_true]
  have hn2 : (((pre.length + 1 + A.length : Nat) : Int) + 1).toNat = pre.length + 1 + A.length + 1 := by omega
  have hd4 : (pre ++ ((40, false) :: (A ++ [(41, false)]) ++ R)).drop (pre.length + 1 + A.length + 1) = R := by
    rw [← List.drop_drop, hd3]
    rfl
  rw [hn2, hd4]
  refine ⟨⟨1, [], 0, (pre.length : Int)⟩ :: (t1 ++ [⟨2, [], 0, ((pre.length + 1 + A.length : Nat) : Int)⟩]), by simp [zeroA, e1], ?_⟩
  have eg : f + 1 - (⟨1, [], 0, 0⟩ :: (ks ++ [⟨2, [], 0, 0⟩]) : List Tok).length = g := by simp; omega
  rw [eg]
  have ep : pre.length + (((40 : Int), false) :: (A ++ [((41 : Int), false)])).length + skipL false R = pre.length + 1 + A.length + 1 + skipL false R := by simp; omega
  rw [ep]
  simp
/-- A text that is read as these tokens, but for their places, wherever it stands. -/
def Txt (l : List UInt8) (ks : List Tok) : Prop := Lib.validD l = true ∧ LexTo (lets l) ks
theorem valid_encs_app : ∀ (rs : List Nat) (m : List UInt8), (∀ r ∈ rs, okR r) → Lib.validD ((rs.flatMap fun (r : Nat) => Lib.encodeRune (r : Int)) ++ m) = Lib.validD m
  | [], m, _ => rfl
  | r :: rs, m, h => by
    rw [List.flatMap_cons, List.append_assoc, valid_enc r (h r (by simp))]
    exact valid_encs_app rs m fun x hx => h x (by simp [hx])
theorem valid_app {l : List UInt8} (m : List UInt8) (h : Lib.validD l = true) : Lib.validD (l ++ m) = Lib.validD m := by
  obtain ⟨rs, h1, h2, -⟩ := valid_runes _ l (Nat.le_refl _) h
  rw [h2]
  exact valid_encs_app rs m h1
theorem txt_sp {l m : List UInt8} {ks us : List Tok} (hl : Txt l ks) (hm : Txt m us) : Txt (l ++ 32 :: m) (ks ++ us) := by
  refine ⟨?_, ?_⟩
  · rw [valid_app _ hl.1, show (32 : UInt8) :: m = [32] ++ m from rfl, valid_asciis [32] m (by decide)]
    exact hm.1
  · rw [lets_app _ _ hl.1, lets_ascii 32 (by decide)]
    exact lexTo_sp hl.2 hm.2
theorem txt_par {l : List UInt8} {ks : List Tok} (hl : Txt l ks) : Txt (40 :: l ++ [41]) (⟨1, [], 0, 0⟩ :: (ks ++ [⟨2, [], 0, 0⟩])) := by
  refine ⟨?_, ?_⟩
  · rw [show (40 :: l ++ [41] : List UInt8) = [40] ++ (l ++ [41]) from rfl, valid_asciis [40] _ (by decide), valid_app _ hl.1]
    decide +kernel
  · rw [show (40 :: l ++ [41] : List UInt8) = 40 :: (l ++ [41]) from rfl, lets_ascii 40 (by decide), lets_app _ _ hl.1, show lets [41] = [(41, false)] by rw [lets_ascii 41 (by decide)]; rfl]
    exact lexTo_par hl.2
/-- Texts, each read as its own tokens. -/
def Txts : List (List UInt8) → List Tok → Prop
  | [], us => us = []
  | x :: l, us => ∃ k1 u1, us = k1 ++ u1 ∧ Txt x k1 ∧ Txts l u1
theorem Txts.nil : Txts [] [] := rfl
theorem Txts.cons {x : List UInt8} {ks : List Tok} {l : List (List UInt8)} {us : List Tok} (h : Txt x ks) (hl : Txts l us) : Txts (x :: l) (ks ++ us) := ⟨ks, us, rfl, h, hl⟩
theorem txt_parts : ∀ {l : List (List UInt8)} {us : List Tok} {h : List UInt8} {ks : List Tok}, Txt h ks → Txts l us → Txt (h ++ partsL l) (ks ++ us)
  | [], us, h, ks, hh, e => by
    obtain rfl : us = [] := e
    simpa [partsL] using hh
  | x :: l, us, h, ks, hh, ⟨k1, u1, e, hx, hl⟩ => by
    subst e
    have := txt_parts (txt_sp hh hx) hl
    have e2 : h ++ partsL (x :: l) = (h ++ 32 :: x) ++ partsL l := by simp [partsL]
    rw [e2, ← List.append_assoc]
    exact this
theorem txt_brackets {l : List (List UInt8)} {us : List Tok} {h : List UInt8} {ks : List Tok} (hh : Txt h ks) (hl : Txts l us) : Txt (bracketsP h l) (⟨1, [], 0, 0⟩ :: (ks ++ us ++ [⟨2, [], 0, 0⟩])) := by
  have := txt_par (txt_parts hh hl)
  exact this
/-- Such a text, alone, is read as its tokens. -/
theorem txt_lex {l : List UInt8} {ks : List Tok} (h : Txt l ks) (hl : l.length ≤ 2048) : ∃ ts, lexP l = (ts, 0, 0) ∧ ts.map zeroA = ks := by
  obtain ⟨-, h1, h2, h3, h4⟩ := h
  obtain ⟨ts, e, g⟩ := h4 [] [] ((lets l).length + 1) [] (.inl rfl) (by omega)
  refine ⟨ts, ?_, e⟩
  have h0 := h1 []
  rw [List.append_nil] at h0
  unfold lexP
  rw [if_neg (by omega), h0]
  simp only [List.nil_append, List.append_nil, List.length_nil] at g
  rw [g]
  exact lexGo_end _ _ _ _ (by simp)
/-- A word alone. -/
theorem txt_word {l : List UInt8} (hv : Lib.validD l = true) (hne : l ≠ []) (h64 : l.length ≤ 64) (hb : begNum l = false) (he : ∀ x ∈ lets l, isEnd x.1 = false) : Txt l [⟨3, l, 0, 0⟩] := by
  obtain ⟨rs, h1, h2, h3⟩ := valid_runes _ l (Nat.le_refl _) hv
  have hen : enc (lets l) = l := by rw [h3, enc_map, ← h2]
  have hbad : anyBad (lets l) = false := by rw [h3]; simp [anyBad]
  have hsn : lets l ≠ [] := fun e => hne (by rw [← hen, e]; rfl)
  have hw : wErr (enc (lets l)) = 0 := by rw [hen]; unfold wErr; rw [if_neg (by rw [hb]; simp), if_neg (by omega)]
  have hs := lexTo_solid (solid_word (lets l) hsn he hbad hw)
  have ht : wTok (enc (lets l)) = ⟨3, l, 0, 0⟩ := by rw [hen]; unfold wTok; rw [if_neg (by rw [hb]; simp), if_neg (by omega)]
  rw [ht] at hs
  exact ⟨hv, hs⟩
/-- A number alone, and a text alone, as they are shown. -/
theorem txt_num (n : Int) (h0 : -9223372036854775808 ≤ n) (h1 : n ≤ 9223372036854775807) : Txt (showP ⟨4, [], n, 0⟩).1 [⟨4, [], n, 0⟩] := by
  have hs := show_num n h0 h1
  rcases show_cases ⟨4, [], n, 0⟩ with h | h
  · rw [hs] at h; exact absurd rfl h.1
  · have r := h.2.1
    rw [h.2.2.1] at r ⊢
    obtain ⟨a, b⟩ := solid_of _ r h0 h1 (by simp)
    exact ⟨a, lexTo_solid b⟩
theorem txt_txt (l : List UInt8) (hv : Lib.validD l = true) (hl : l.length ≤ 256) : Txt (showP ⟨5, l, 0, 0⟩).1 [⟨5, l, 0, 0⟩] := by
  have hs := right_show l hv hl
  rcases show_cases ⟨5, l, 0, 0⟩ with h | h
  · rw [hs] at h; exact absurd rfl h.1
  · have r := h.2.1
    rw [h.2.2.1] at r ⊢
    obtain ⟨a, b⟩ := solid_of _ r (by simp) (by simp) hl
    exact ⟨a, lexTo_solid b⟩
end Go.Proofs.YtnmmojhbcnlboaaGreatDoor
/- Names and columns are words. No walk stands in this text. -/
namespace Go.Proofs.YtnmmojhbcnlboaaGreatDoor
open Go.RowKit Go.Lib
set_option linter.unusedVariables false
set_option linter.unusedSimpArgs false
theorem index_dot : ∀ l : List UInt8, Lib.index l [46] = -1 ∨ ∃ a b, l = a ++ 46 :: b ∧ Lib.index l [46] = (a.length : Int)
  | [] => .inl rfl
  | c :: l => by
    unfold Lib.index
    by_cases h : ([46] : List UInt8).isPrefixOf (c :: l) = true
    · rw [if_pos h]
      have hc : 46 = c := by simpa [List.isPrefixOf] using h
      subst hc
      exact .inr ⟨[], l, rfl, rfl⟩
    · rw [if_neg h]
      rcases index_dot l with h1 | ⟨a, b, h1, h2⟩
      · rw [h1]; exact .inl rfl
      · rw [h2, if_neg (by simp)]
        exact .inr ⟨c :: a, b, by rw [h1]; rfl, by simp⟩
theorem cut_dot (l : List UInt8) : Lib.cut l [46] = (l, [], false) ∨ ∃ a b, l = a ++ 46 :: b ∧ Lib.cut l [46] = (a, b, true) := by
  unfold Lib.cut
  rcases index_dot l with h | ⟨a, b, h1, h2⟩
  · left; rw [h]; rfl
  · right
    refine ⟨a, b, h1, ?_⟩
    rw [h2, if_pos (by omega)]
    have e : ((a.length : Int)).toNat = a.length := by omega
    rw [e, h1]
    simp
theorem name_parts {l : List UInt8} (h : isNameP l = true) : l ≠ [] ∧ l.length ≤ 64 ∧ Lib.validD l = true ∧ isConstP l = false ∧ nameL true (lets l) = true := by
  unfold isNameP at h
  split at h
  · cases h
  split at h
  · cases h
  split at h
  · cases h
  split at h
  · cases h
  rename_i h1 h2 h3 h4
  exact ⟨h1, by omega, by simpa using h3, by simpa using h4, h⟩
theorem let_end {r : Int} (h : isLetP r = true ∨ isDigP r = true) : isEnd r = false := by
  unfold isLetP isDigP at h
  simp only [Bool.or_eq_true, Bool.and_eq_true, decide_eq_true_eq] at h
  unfold isEnd isBl
  simp only [Bool.or_eq_false_iff, beq_eq_false_iff_ne]
  omega
theorem nameL_ends : ∀ (b : Bool) (l : List Let), nameL b l = true → ∀ x ∈ l, isEnd x.1 = false
  | _, [], _, x, hx => by cases hx
  | b, y :: l, h, x, hx => by
    rw [nameL_cons] at h
    split at h
    · rename_i h1
      rcases List.mem_cons.1 hx with rfl | hx
      · refine let_end ?_
        simp only [Bool.or_eq_true, Bool.and_eq_true] at h1
        rcases h1 with h1 | h1
        · exact .inl h1
        · exact .inr h1.2
      · exact nameL_ends false l h x hx
    · cases h
theorem begNum_name {c : UInt8} {l : List UInt8} (h : ∀ x L, lets (c :: l) = x :: L → isLetP x.1 = true) : begNum (c :: l) = false := by
  by_cases hc : c.toNat < 128
  · have h1 := h _ _ (lets_ascii c hc l)
    unfold isLetP at h1
    simp only [Bool.or_eq_true, Bool.and_eq_true, decide_eq_true_eq] at h1
    have h45 : c ≠ 45 := by rintro rfl; simp at h1
    unfold begNum Lib.trimPrefix
    rw [if_neg (by simp [Lib.hasPrefix, List.isPrefixOf, Ne.symm h45])]
    simp only [Bool.and_eq_false_iff, decide_eq_false_iff_not]
    omega
  · have h45 : c ≠ 45 := by rintro rfl; simp at hc
    unfold begNum Lib.trimPrefix
    rw [if_neg (by simp [Lib.hasPrefix, List.isPrefixOf, Ne.symm h45])]
    simp only [Bool.and_eq_false_iff, decide_eq_false_iff_not]
    omega
theorem nameL_first {l : List UInt8} {x : Let} {L : List Let} (h : nameL true (lets l) = true) (hl : lets l = x :: L) : isLetP x.1 = true := by
  rw [hl, nameL_cons] at h
  split at h
  · rename_i h1
    simpa using h1
  · cases h
theorem txt_name {l : List UInt8} (h : isNameP l = true) : Txt l [⟨3, l, 0, 0⟩] := by
  obtain ⟨h1, h2, h3, -, h5⟩ := name_parts h
  obtain ⟨c, m, rfl⟩ := List.exists_cons_of_ne_nil h1
  exact txt_word h3 h1 h2 (begNum_name fun x L e => nameL_first h5 e) (nameL_ends _ _ h5)
theorem txt_col {l : List UInt8} (h : isColP l = true) (h64 : l.length ≤ 64) : Txt l [⟨3, l, 0, 0⟩] := by
  unfold isColP at h
  rcases cut_dot l with e | ⟨a, b, rfl, e⟩
  · rw [e] at h
    exact txt_name (by simpa using h)
  · rw [e] at h
    simp only [Bool.not_true, Bool.false_or, Bool.and_eq_true] at h
    obtain ⟨a1, a2, a3, -, a5⟩ := name_parts h.1
    obtain ⟨b1, b2, b3, -, b5⟩ := name_parts h.2
    have hl : lets (a ++ 46 :: b) = lets a ++ (46, false) :: lets b := by rw [lets_app _ _ a3, lets_ascii 46 (by decide)]; rfl
    refine txt_word ?_ (by simp) h64 ?_ ?_
    · rw [valid_app _ a3, show (46 : UInt8) :: b = [46] ++ b from rfl, valid_asciis [46] b (by decide)]
      exact b3
    · obtain ⟨c, m, rfl⟩ := List.exists_cons_of_ne_nil a1
      refine begNum_name (l := m ++ 46 :: b) fun x L e => ?_
      have e2 : lets ((c :: m) ++ 46 :: b) = x :: L := e
      rw [hl] at e2
      cases hc : lets (c :: m) with
      | nil => rw [hc] at e2; rw [hc] at a5; obtain ⟨rs, r1, r2, r3⟩ := valid_runes _ _ (Nat.le_refl _) a3; rw [hc] at r3; cases rs with
        | nil => simp at r2
        | cons r rs => simp at r3
      | cons y Y =>
        rw [hc] at e2
        simp only [List.cons_append, List.cons.injEq] at e2
        rw [← e2.1]
        exact nameL_first a5 hc
    · intro x hx
      rw [hl] at hx
      rcases List.mem_append.1 hx with hx | hx
      · exact nameL_ends _ _ a5 x hx
      · rcases List.mem_cons.1 hx with rfl | hx
        · decide
        · exact nameL_ends _ _ b5 x hx
/-- The words of the language. -/
def isOpWord (l : List UInt8) : Bool := !(l.isEmpty) && decide (l.length ≤ 64) && !(begNum l) && l.all fun c => decide (c.toNat < 128) && !(isEnd (c.toNat : Int))
theorem lets_asciiAll : ∀ l : List UInt8, (∀ c ∈ l, c.toNat < 128) → lets l = l.map fun c => ((c.toNat : Int), false) := fun l h => by
  have := lets_asciis l [] h
  rw [List.append_nil, lets_nil, List.append_nil] at this
  exact this
theorem txt_op {l : List UInt8} (h : isOpWord l = true) : Txt l [⟨3, l, 0, 0⟩] := by
  unfold isOpWord at h
  simp only [Bool.and_eq_true, List.all_eq_true, decide_eq_true_eq, Bool.not_eq_true', List.isEmpty_eq_false_iff] at h
  obtain ⟨⟨⟨h1, h2⟩, h3⟩, h4⟩ := h
  refine txt_word ?_ h1 h2 h3 ?_
  · have := valid_asciis l [] fun c hc => (h4 c hc).1
    rw [List.append_nil] at this
    rw [this]; rfl
  · intro x hx
    rw [lets_asciiAll l fun c hc => (h4 c hc).1] at hx
    obtain ⟨c, hc, rfl⟩ := List.mem_map.1 hx
    exact (h4 c hc).2
end Go.Proofs.YtnmmojhbcnlboaaGreatDoor
/- Tokens that are read as these steps, or lie too deep. No walk stands in this text. -/
namespace Go.Proofs.YtnmmojhbcnlboaaGreatDoor
open Go.RowKit Go.Lib
set_option linter.unusedVariables false
set_option linter.unusedSimpArgs false
/-- Either this, or it lies too deep. -/
def Deep {α : Type} (r : Res α) (x : α) (s : PS) : Prop := r = .inr (x, s) ∨ ∃ a, r = .inl (10, a)
theorem Deep.and {α β : Type} {r : Res α} {x : α} {s : PS} {f : α → PS → Res β} {y : β} {s' : PS} (h : Deep r x s) (hf : Deep (f x s) y s') : Deep (andR r f) y s' := by
  rcases h with h | ⟨a, h⟩
  · rw [h]; exact hf
  · rw [h]; exact .inr ⟨a, rfl⟩
theorem zeroA_k {t k : Tok} (h : zeroA t = k) : t = { k with a := t.a } := by
  subst h; rfl
/-- Taking a token that is no opening bracket. -/
theorem take_at (en : Int) (P : Tok → Bool) (t : Tok) (ts : List Tok) (op : Int) (h1 : t.k ≠ 1) (hP : P t = true) : takeP en P ⟨t :: ts, op⟩ = .inr (t, ⟨ts, if t.k = 2 then op - 1 else op⟩) := by
  unfold takeP
  have : comesP opnP (⟨t :: ts, op⟩ : PS) = false := by simp [comesP, opnP, h1]
  rw [this]
  simp only [Bool.false_and, Bool.false_eq_true, if_false]
  rw [if_pos hP, if_neg h1]
/-- Taking an opening bracket. -/
theorem take_open (en : Int) (P : Tok → Bool) (t : Tok) (ts : List Tok) (op : Int) (h1 : t.k = 1) (hP : P t = true) : Deep (takeP en P ⟨t :: ts, op⟩) t ⟨ts, op + 1⟩ := by
  unfold takeP
  have : comesP opnP (⟨t :: ts, op⟩ : PS) = true := by simp [comesP, opnP, h1]
  rw [this]
  by_cases h8 : op = 8
  · right; exact ⟨_, by rw [if_pos (by simp [h8])]⟩
  · left
    rw [if_neg (by simp [h8])]
    simp only
    rw [if_pos hP, if_pos h1]
/-- These tokens are read as a part that puts these steps. -/
def PartOk (ks : List Tok) (ls : List Stp) : Prop :=
  (∃ k r, ks = k :: r ∧ (lefP k || opnP k) = true ∧ clsP k = false) ∧ ∀ (en : Int) (f : Nat) (l : List Stp) (ts rest : List Tok) (op : Int), ts.map zeroA = ks → (ts ++ rest).length < f → l.length + ls.length ≤ 64 → Deep (partR en f l ⟨ts ++ rest, op⟩) (l ++ ls) ⟨rest, op⟩
theorem leafP_a (t : Tok) (a : Int) : leafP { t with a := a } = leafP t := rfl
theorem part_leaf {t : Tok} {x : Stp} (h1 : t.k ≠ 1) (h2 : t.k ≠ 2) (hl : leafP t = x) (hx : x.k ≠ 0) : PartOk [t] [x] := by
  have hlf : lefP t = true := by unfold lefP; rw [hl]; simpa using hx
  refine ⟨⟨t, [], rfl, by rw [hlf]; rfl, by simp [clsP, h2]⟩, fun en f l ts rest op hts hf hle => ?_⟩
  obtain ⟨t', r, rfl, ht', hr⟩ := List.map_eq_cons_iff.1 hts
  obtain rfl : r = [] := by simpa using hr
  obtain ⟨f, rfl⟩ : ∃ g, f = g + 1 := ⟨f - 1, by simp at hf; omega⟩
  have hk := zeroA_k ht'
  generalize t'.a = a at hk
  subst hk
  left
  simp only [partR, List.cons_append, List.nil_append]
  rw [take_at en _ { t with a := a } rest op h1 (by show (lefP { t with a := a } || opnP _) = true; rw [show lefP { t with a := a } = lefP t from rfl, hlf]; rfl)]
  simp only [andR]
  rw [if_neg h1, if_neg h2]
  unfold putR
  rw [if_neg (by simp at hle; omega), leafP_a, hl]
/-- As many parts. -/
def PartsOk : Nat → List Tok → List Stp → Prop
  | 0, us, ms => us = [] ∧ ms = []
  | n + 1, us, ms => ∃ k1 u1 l1 m1, us = k1 ++ u1 ∧ ms = l1 ++ m1 ∧ PartOk k1 l1 ∧ PartsOk n u1 m1
theorem PartsOk.nil : PartsOk 0 [] [] := ⟨rfl, rfl⟩
theorem PartsOk.cons {n : Nat} {ks us : List Tok} {ls ms : List Stp} (h : PartOk ks ls) (hl : PartsOk n us ms) : PartsOk (n + 1) (ks ++ us) (ls ++ ms) := ⟨ks, us, ls, ms, rfl, rfl, h, hl⟩
theorem times_ok : ∀ {n : Nat} {us : List Tok} {ms : List Stp}, PartsOk n us ms → ∀ (en : Int) (f : Nat) (l : List Stp) (ts rest : List Tok) (op : Int), ts.map zeroA = us → (ts ++ rest).length < f → l.length + ms.length ≤ 64 → Deep (timesR (partR en f) n l ⟨ts ++ rest, op⟩) (l ++ ms) ⟨rest, op⟩
  | 0, us, ms, hp, en, f, l, ts, rest, op, hts, hf, hle => by
    obtain ⟨rfl, rfl⟩ : us = [] ∧ ms = [] := hp
    obtain rfl : ts = [] := by simpa using hts
    left
    simp [timesR]
  | n + 1, us0, ms0, ⟨ks, us, ls, ms, e1, e2, h, hl⟩, en, f, l, ts, rest, op, hts, hf, hle => by
    subst e1 e2
    obtain ⟨t1, t2, rfl, h1, h2⟩ := List.map_eq_append_iff.1 hts
    simp only [List.length_append] at hf hle
    have a := h.2 en f l t1 (t2 ++ rest) op h1 (by simp only [List.length_append]; omega) (by omega)
    have b := times_ok hl en f (l ++ ls) t2 rest op h2 (by simp only [List.length_append]; omega) (by simp only [List.length_append]; omega)
    rw [List.append_assoc] at b ⊢
    rw [show timesR (partR en f) (n + 1) l ⟨t1 ++ (t2 ++ rest), op⟩ = andR (partR en f l ⟨t1 ++ (t2 ++ rest), op⟩) fun l s => timesR (partR en f) n l s from rfl]
    exact a.and b
/-- An operator's word, its parts, a closing bracket: behind the opening one. -/
theorem oper_ok {k : Nat} {us : List Tok} {ms : List Stp} (h7 : 7 ≤ k) (h21 : k ≤ 21) (hp : PartsOk (takesN k) us ms) (en : Int) (f : Nat) (l : List Stp) (w : Tok) (ts : List Tok) (cl : Tok) (rest : List Tok) (op : Int) (hw : stepOfP w.t = k)
    (hts : ts.map zeroA = us) (hcl : cl.k = 2) (hf : (ts ++ cl :: rest).length < f) (hle : l.length + ms.length + 1 ≤ 64) : Deep (operR en (partR en f) l w ⟨ts ++ cl :: rest, op⟩) (l ++ (ms ++ [⟨k, [], 0⟩])) ⟨rest, op - 1⟩ := by
  unfold operR
  rw [hw]
  refine (times_ok hp en f l ts (cl :: rest) op hts hf (by omega)).and ?_
  refine Deep.and (x := (l ++ ms, takesN k)) (s := ⟨cl :: rest, op⟩) ?_ ?_
  · left
    split
    · simp only [moreR]
      rw [if_pos (by simp [comesP, clsP, hcl])]
    · rfl
  · rw [take_at en clsP cl rest op (by omega) (by simp [clsP, hcl])]
    simp only [andR]
    rw [if_pos hcl]
    have h1 : max 1 (takesN k - 1) = 1 := by unfold takesN; split <;> (try split) <;> omega
    rw [h1]
    left
    simp only [putN, putR]
    rw [if_neg (by simp only [List.length_append]; omega)]
    simp [andR]
theorem part_oper {k : Nat} {wd : List UInt8} {us : List Tok} {ms : List Stp} (h7 : 7 ≤ k) (h21 : k ≤ 21) (hw : stepOfP wd = k) (ho : isConstP wd = false) (hp : PartsOk (takesN k) us ms) : PartOk (⟨1, [], 0, 0⟩ :: ([⟨3, wd, 0, 0⟩] ++ us ++ [⟨2, [], 0, 0⟩])) (ms ++ [⟨k, [], 0⟩]) := by
  refine ⟨⟨_, _, rfl, rfl, rfl⟩, fun en f l ts rest op hts hf hle => ?_⟩
  obtain ⟨t1, r, rfl, h1, hr⟩ := List.map_eq_cons_iff.1 hts
  obtain ⟨r1, r2, rfl, hr1, hr2⟩ := List.map_eq_append_iff.1 hr
  obtain ⟨r3, r4, rfl, hr3, hr4⟩ := List.map_eq_append_iff.1 hr1
  obtain ⟨w, r5, rfl, hw5, hr5⟩ := List.map_eq_cons_iff.1 hr3
  obtain rfl : r5 = [] := by simpa using hr5
  obtain ⟨cl, r6, rfl, hc6, hr6⟩ := List.map_eq_cons_iff.1 hr2
  obtain rfl : r6 = [] := by simpa using hr6
  obtain ⟨f, rfl⟩ : ∃ g, f = g + 1 := ⟨f - 1, by simp at hf; omega⟩
  have k1 := zeroA_k h1
  have kw := zeroA_k hw5
  have kc := zeroA_k hc6
  have e1 : t1.k = 1 := by rw [k1]
  have ew : w.k = 3 ∧ w.t = wd := by rw [kw]; exact ⟨rfl, rfl⟩
  have ec : cl.k = 2 := by rw [kc]
  have eL : t1 :: ([w] ++ r4 ++ [cl]) ++ rest = t1 :: (w :: (r4 ++ cl :: rest)) := by simp
  rw [eL] at hf ⊢
  simp only [List.length_cons, List.length_append, List.length_nil] at hf hle
  rw [show partR en (f + 1) l ⟨t1 :: (w :: (r4 ++ cl :: rest)), op⟩ = andR (takeP en (fun t => lefP t || opnP t) ⟨t1 :: (w :: (r4 ++ cl :: rest)), op⟩) fun t s => if t.k = 1 then andR (takeP en oprP s) fun h s => operR en (partR en f) l h s else putR l (leafP t) t.a s from rfl]
  refine (take_open en _ t1 _ op e1 (by simp [opnP, e1])).and ?_
  rw [if_pos e1, take_at en oprP w _ (op + 1) (by omega) (by unfold oprP; rw [ew.2, ho, hw]; simp [ew.1]; omega)]
  simp only [andR]
  rw [if_neg (by omega)]
  have := oper_ok h7 h21 hp en f l w r4 cl rest (op + 1) (by rw [ew.2]; exact hw) hr4 ec (by simp only [List.length_append, List.length_cons]; omega) (by omega)
  rw [show op + 1 - 1 = op by omega] at this
  exact this
end Go.Proofs.YtnmmojhbcnlboaaGreatDoor
/- An expression that is written is read as its steps. No walk stands in this text. -/
namespace Go.Proofs.YtnmmojhbcnlboaaGreatDoor
open Go.RowKit Go.Lib
set_option linter.unusedVariables false
set_option linter.unusedSimpArgs false
/-- What the steps of a query that was read are: numbers of 64 bits, columns of at most 64 bytes. -/
def Fit (x : Stp) : Prop := I64 x.n ∧ (x.k = 6 → x.t.length ≤ 64)
/-- A text, its tokens, the steps that these are read as. -/
structure Ent where
  s : List UInt8
  ks : List Tok
  ls : List Stp
/-- It begins with no bracket, or is an operator's. -/
def HeadOk (ks : List Tok) (ls : List Stp) : Prop := (∃ k r, ks = k :: r ∧ k.k ≠ 1) ∨ ∃ k wd us ms, 7 ≤ k ∧ k ≤ 21 ∧ stepOfP wd = k ∧ isConstP wd = false ∧ PartsOk (takesN k) us ms ∧ ks = ⟨1, [], 0, 0⟩ :: ([⟨3, wd, 0, 0⟩] ++ us ++ [⟨2, [], 0, 0⟩]) ∧ ls = ms ++ [⟨k, [], 0⟩]
def Ent.ok (e : Ent) : Prop := Txt e.s e.ks ∧ PartOk e.ks e.ls ∧ HeadOk e.ks e.ls
theorem ents_txts : ∀ (E : List Ent), (∀ e ∈ E, e.ok) → Txts (E.map (·.s)) (E.flatMap (·.ks))
  | [], _ => .nil
  | e :: E, h => .cons (h e (by simp)).1 (ents_txts E fun x hx => h x (by simp [hx]))
theorem ents_parts : ∀ (E : List Ent), (∀ e ∈ E, e.ok) → PartsOk E.length (E.flatMap (·.ks)) (E.flatMap (·.ls))
  | [], _ => .nil
  | e :: E, h => .cons (h e (by simp)).2.1 (ents_parts E fun x hx => h x (by simp [hx]))
theorem stepText_op : ∀ k : Nat, k < 22 → 7 ≤ k → isOpWord (stepTextP k) = true ∧ stepOfP (stepTextP k) = k ∧ isConstP (stepTextP k) = false := by
  intro k hk h7
  have h : ∀ j : Fin 22, 7 ≤ j.1 → isOpWord (stepTextP j.1) = true ∧ stepOfP (stepTextP j.1) = j.1 ∧ isConstP (stepTextP j.1) = false := by decide +kernel
  exact h ⟨k, hk⟩ h7
theorem stepText_const : ∀ k : Nat, k < 4 → 1 ≤ k → isOpWord (stepTextP k) = true ∧ stepOfP (stepTextP k) = k ∧ isConstP (stepTextP k) = true ∧ isColP (stepTextP k) = false := by
  intro k hk h7
  have h : ∀ j : Fin 4, 1 ≤ j.1 → isOpWord (stepTextP j.1) = true ∧ stepOfP (stepTextP j.1) = j.1 ∧ isConstP (stepTextP j.1) = true ∧ isColP (stepTextP j.1) = false := by decide +kernel
  exact h ⟨k, hk⟩ h7
theorem takes_of {x : Stp} (h : (takesP x).2 = true) : rStepP x = true ∧ (takesP x).1 = takesN x.k := by
  unfold takesP at h ⊢
  split at h
  · rename_i h1; rw [if_pos h1]; exact ⟨h1, rfl⟩
  · cases h
/-- A step without parts. -/
theorem leaf_ent {x : Stp} (h : rStepP x = true) (hf : Fit x) (h6 : x.k ≤ 6) : ∃ ks, Ent.ok ⟨writeStepP x [], ks, [x]⟩ := by
  obtain ⟨k, t, n⟩ := x
  unfold rStepP at h
  simp only at h h6
  split at h
  · cases h
  rename_i h0
  split at h
  · rename_i h4
    obtain rfl : k = 4 := h4
    obtain rfl : t = [] := by simpa using h
    exact ⟨[⟨4, [], n, 0⟩], txt_num n hf.1.1 hf.1.2, part_leaf (by simp) (by simp) (by rfl) (by simp), .inl ⟨_, _, rfl, by simp⟩⟩
  rename_i h4
  split at h
  · rename_i h5
    obtain rfl : k = 5 := h5
    simp only [Bool.and_eq_true, decide_eq_true_eq] at h
    obtain ⟨rfl, hl, hv⟩ := h
    exact ⟨[⟨5, t, 0, 0⟩], txt_txt t hv hl, part_leaf (by simp) (by simp) (by rfl) (by simp), .inl ⟨_, _, rfl, by simp⟩⟩
  rename_i h5
  split at h
  · rename_i h6
    obtain rfl : k = 6 := h6
    simp only [Bool.and_eq_true, decide_eq_true_eq] at h
    obtain ⟨rfl, hc⟩ := h
    refine ⟨[⟨3, t, 0, 0⟩], txt_col hc (hf.2 rfl), part_leaf (by simp) (by simp) (x := ⟨6, t, 0⟩) ?_ (by simp), .inl ⟨_, _, rfl, by simp⟩⟩
    unfold leafP
    rw [if_neg (by simp), if_neg (by simp), if_pos (by unfold colP; rw [hc]; rfl)]
  rename_i h6'
  simp only [Bool.and_eq_true, decide_eq_true_eq] at h
  obtain ⟨rfl, rfl⟩ := h
  obtain ⟨c1, c2, c3, c4⟩ := stepText_const k (by omega) (by omega)
  have e : writeStepP ⟨k, [], 0⟩ [] = stepTextP k := by
    unfold writeStepP
    simp only
    rw [if_neg (by omega), if_neg (by omega), if_neg (by omega), if_pos trivial]
  rw [e]
  refine ⟨[⟨3, stepTextP k, 0, 0⟩], txt_op c1, part_leaf (by simp) (by simp) (x := ⟨k, [], 0⟩) ?_ (by simp; omega), .inl ⟨_, _, rfl, by simp⟩⟩
  unfold leafP
  simp only
  rw [if_neg (by decide), if_neg (by decide), if_neg (by unfold colP; rw [c4]; simp), if_pos ⟨trivial, c3⟩, c2]
/-- A step with its parts. -/
theorem oper_ent {x : Stp} (h : rStepP x = true) (h6 : 6 < x.k) (P : List Ent) (hP : ∀ e ∈ P, e.ok) (hl : P.length = takesN x.k) : ∃ ks, Ent.ok ⟨writeStepP x (P.map (·.s)), ks, P.flatMap (·.ls) ++ [x]⟩ := by
  obtain ⟨k, t, n⟩ := x
  unfold rStepP at h
  simp only at h h6 hl
  rw [if_neg (by omega : ¬ k = 4), if_neg (by omega : ¬ k = 5), if_neg (by omega : ¬ k = 6)] at h
  split at h
  · cases h
  rename_i h0
  simp only [Bool.and_eq_true, decide_eq_true_eq] at h
  obtain ⟨rfl, rfl⟩ := h
  obtain ⟨c1, c2, c3⟩ := stepText_op k (by omega) (by omega)
  have hne : P.map (·.s) ≠ [] := by
    intro e
    have : P.length = 0 := by simpa using congrArg List.length e
    rw [hl] at this
    unfold takesN at this
    split at this
    · omega
    · split at this <;> omega
  have e : writeStepP ⟨k, [], 0⟩ (P.map (·.s)) = bracketsP (stepTextP k) (P.map (·.s)) := by
    unfold writeStepP
    simp only
    rw [if_neg (by omega), if_neg (by omega), if_neg (by omega), if_neg hne]
  rw [e]
  have hp := ents_parts P hP
  rw [hl] at hp
  exact ⟨_, txt_brackets (txt_op c1) (ents_txts P hP), part_oper (by omega) (by omega) c2 c3 hp, .inr ⟨k, _, _, _, by omega, by omega, c2, c3, hp, rfl, rfl⟩⟩
/-- Steps written one behind the other. -/
theorem expr_go : ∀ (l : List Stp) (E : List Ent), (∀ e ∈ E, e.ok) → (∀ x ∈ l, Fit x) → rightL l E.length = true → ∃ e : Ent, e.ok ∧ exprGo l (E.map (·.s)) = [e.s] ∧ e.ls = E.flatMap (·.ls) ++ l
  | [], E, hE, _, hr => by
    have h1 : E.length = 1 := by simpa [rightL] using hr
    match E, h1 with
    | [e], _ => exact ⟨e, hE e (by simp), rfl, by simp⟩
  | x :: l, E, hE, hf, hr => by
    unfold rightL at hr
    split at hr
    · cases hr
    rename_i hc
    simp only [not_or, Bool.not_eq_false, Nat.not_lt] at hc
    obtain ⟨r1, r2⟩ := takes_of hc.1
    have hle := hc.2
    rw [r2] at hr hle
    have hD : ∀ e ∈ E.drop (E.length - takesN x.k), e.ok := fun e he => hE e (List.mem_of_mem_drop he)
    have hT : ∀ e ∈ E.take (E.length - takesN x.k), e.ok := fun e he => hE e (List.mem_of_mem_take he)
    have hlen : (E.drop (E.length - takesN x.k)).length = takesN x.k := by rw [List.length_drop]; omega
    obtain ⟨ks, hk⟩ : ∃ ks, Ent.ok ⟨writeStepP x ((E.drop (E.length - takesN x.k)).map (·.s)), ks, (E.drop (E.length - takesN x.k)).flatMap (·.ls) ++ [x]⟩ := by
      by_cases h6 : x.k ≤ 6
      · have h0 : takesN x.k = 0 := by unfold takesN; rw [if_pos h6]
        obtain ⟨ks, h⟩ := leaf_ent r1 (hf x (by simp)) h6
        refine ⟨ks, ?_⟩
        rw [h0]
        simpa using h
      · exact oper_ent r1 (by omega) _ hD hlen
    obtain ⟨e, h1, h2, h3⟩ := expr_go l (E.take (E.length - takesN x.k) ++ [⟨writeStepP x ((E.drop (E.length - takesN x.k)).map (·.s)), ks, (E.drop (E.length - takesN x.k)).flatMap (·.ls) ++ [x]⟩]) (by
        intro e he
        rcases List.mem_append.1 he with he | he
        · exact hT e he
        · rw [List.mem_singleton.1 he]
          exact hk) (fun y hy => hf y (by simp [hy])) (by
        rw [List.length_append, List.length_take, Nat.min_eq_left (by omega)]
        rw [show E.length - takesN x.k + [(⟨writeStepP x ((E.drop (E.length - takesN x.k)).map (·.s)), ks, (E.drop (E.length - takesN x.k)).flatMap (·.ls) ++ [x]⟩ : Ent)].length = E.length + 1 - takesN x.k by simp; omega]
        exact hr)
    refine ⟨e, h1, ?_, ?_⟩
    · rw [← h2]
      conv => lhs; unfold exprGo
      rw [r2, List.length_map, ← List.map_take, ← List.map_drop, List.map_append]
      rfl
    · rw [h3, List.flatMap_append]
      have : E.flatMap (·.ls) = (E.take (E.length - takesN x.k)).flatMap (·.ls) ++ (E.drop (E.length - takesN x.k)).flatMap (·.ls) := by rw [← List.flatMap_append, List.take_append_drop]
      rw [this]
      simp
/-- An expression that is right is written, and read as it was. -/
theorem expr_ent {l : List Stp} (h : rightP l = true) (hf : ∀ x ∈ l, Fit x) : ∃ ks, Ent.ok ⟨exprP l, ks, l⟩ ∧ l.length ≤ 64 := by
  unfold rightP at h
  split at h
  · cases h
  rename_i h64
  obtain ⟨e, h1, h2, h3⟩ := expr_go l [] (by simp) hf h
  obtain ⟨s, ks, ls⟩ := e
  simp only [List.flatMap_nil, List.nil_append, List.map_nil] at h2 h3
  subst h3
  refine ⟨ks, ?_, by omega⟩
  unfold exprP
  rw [h2]
  exact h1
end Go.Proofs.YtnmmojhbcnlboaaGreatDoor
