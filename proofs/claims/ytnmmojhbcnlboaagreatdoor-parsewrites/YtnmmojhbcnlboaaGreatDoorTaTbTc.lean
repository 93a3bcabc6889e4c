/- Texts whose reading stops with a fault wherever they stand: columns of two names that are no atom together, and what holds one. No walk stands in this text. -/
import Derived.Test.YtnmmojhbcnlboaaGreatDoorSeSfSh
import Derived.Test.YtnmmojhbcnlboaaGreatDoorRgRh
namespace Go.Proofs.YtnmmojhbcnlboaaGreatDoor
open Go.RowKit Go.Lib
set_option linter.unusedVariables false
set_option linter.unusedSimpArgs false
/-- Letters with which lexing stops with a fault wherever they stand. -/
def LexBad (A : List Let) : Prop :=
  (∀ R, skipL false (A ++ R) = 0) ∧ A ≠ [] ∧ ∀ (pre R : List Let) (f : Nat) (acc : List Tok), Ends R → A.length ≤ f → (lexGo (pre ++ (A ++ R)) f pre.length acc).2.1 ≠ 0
theorem bad_word {seg : List Let} (hne : seg ≠ []) (he : ∀ x ∈ seg, isEnd x.1 = false) (hb : anyBad seg = false) (hw : wErr (enc seg) ≠ 0) : LexBad seg := by
  obtain ⟨y, r, rfl⟩ := List.exists_cons_of_ne_nil hne
  have hy := end_parts (he y (by simp))
  refine ⟨fun L => by simp [skipL, hy.1, hy.2.1], hne, fun pre R f acc hR hf => ?_⟩
  obtain ⟨f, rfl⟩ : ∃ g, f = g + 1 := ⟨f - 1, by simp at hf; omega⟩
  have hd : (pre ++ ((y :: r) ++ R)).drop pre.length = (y :: r) ++ R := List.drop_left
  have hwl : wlen ((y :: r) ++ R) = (y :: r).length := wlen_app _ _ he hR
  have ht : tokAns (pre ++ ((y :: r) ++ R)) pre.length = ⟨noTok, 0, wErr (enc (y :: r))⟩ := by
    unfold tokAns
    rw [hd]
    simp only [List.cons_append]
    rw [if_neg hy.2.2.1, if_neg hy.2.2.2.1, if_neg hy.2.2.2.2]
    unfold wordAns
    simp only
    rw [show pre ++ y :: (r ++ R) = pre ++ ((y :: r) ++ R) from rfl, hd, hwl, List.take_left, hb, if_neg (by simp), if_neg hw]
  rw [lexGo_step _ _ _ _ (by simp), ht]
  simp only
  rw [if_neg hw]
  exact hw
theorem bad_sp_r {A B : List Let} {ks : List Tok} (hA : LexTo A ks) (hB : LexBad B) : LexBad (A ++ (32, false) :: B) := by
  obtain ⟨a1, a2, a3, a4⟩ := hA
  obtain ⟨b1, b2, b3⟩ := hB
  refine ⟨fun R => by rw [List.append_assoc]; exact a1 _, by simp, fun pre R f acc hR hf => ?_⟩
  simp only [List.length_append, List.length_cons] at hf
  obtain ⟨t1, e1, g1⟩ := a4 pre ((32, false) :: (B ++ R)) f acc (ends_sp _) (by omega)
  have hs : skipL false ((32, false) :: (B ++ R)) = 1 := by simp [skipL, isBl, b1]
  rw [hs] at g1
  have g2 := b3 (pre ++ (A ++ [(32, false)])) R (f - ks.length) (acc ++ t1) hR (by omega)
  have el : pre ++ (A ++ [(32, false)]) ++ (B ++ R) = pre ++ ((A ++ (32, false) :: B) ++ R) := by simp
  have em : pre ++ (A ++ (32, false) :: (B ++ R)) = pre ++ ((A ++ (32, false) :: B) ++ R) := by simp
  have en : (pre ++ (A ++ [((32 : Int), false)])).length = pre.length + A.length + 1 := by simp; omega
  rw [em] at g1
  rw [el, en] at g2
  rw [g1]
  exact g2
theorem bad_sp_l {A B : List Let} (hA : LexBad A) : LexBad (A ++ (32, false) :: B) := by
  obtain ⟨a1, a2, a3⟩ := hA
  refine ⟨fun R => by rw [List.append_assoc]; exact a1 _, by simp, fun pre R f acc hR hf => ?_⟩
  simp only [List.length_append, List.length_cons] at hf
  have g1 := a3 pre ((32, false) :: (B ++ R)) f acc (ends_sp _) (by omega)
  have em : pre ++ (A ++ (32, false) :: (B ++ R)) = pre ++ ((A ++ (32, false) :: B) ++ R) := by simp
  rw [em] at g1
  exact g1
theorem bad_par {A : List Let} (hA : LexBad A) : LexBad ((40, false) :: (A ++ [(41, false)])) := by
  obtain ⟨a1, a2, a3⟩ := hA
  refine ⟨fun R => by simp [skipL, isBl], by simp, fun pre R f acc hR hf => ?_⟩
  simp only [List.length_cons, List.length_append, List.length_nil] at hf
  obtain ⟨f, rfl⟩ : ∃ g, f = g + 1 := ⟨f - 1, by omega⟩
  have ew : pre ++ ((40, false) :: (A ++ [(41, false)]) ++ R) = (pre ++ [(40, false)]) ++ (A ++ (41, false) :: R) := by simp
  have hd : (pre ++ ((40, false) :: (A ++ [(41, false)]) ++ R)).drop pre.length = (40, false) :: (A ++ [(41, false)]) ++ R := List.drop_left
  have htk : tokAns (pre ++ ((40, false) :: (A ++ [(41, false)]) ++ R)) pre.length = ⟨⟨1, [], 0, (pre.length : Int)⟩, (pre.length : Int) + 1, 0⟩ := by
    unfold tokAns
    rw [hd]
    rfl
  rw [lexGo_step _ _ _ _ (by simp), htk]
  simp only [if_true]
  have hn : ((pre.length : Int) + 1).toNat = pre.length + 1 := by omega
  have hd2 : (pre ++ ((40, false) :: (A ++ [(41, false)]) ++ R)).drop (pre.length + 1) = A ++ (41, false) :: R := by
    rw [← List.drop_drop, hd]
    simp
  rw [hn, hd2, a1, Nat.add_zero]
  have g1 := a3 (pre ++ [(40, false)]) ((41, false) :: R) f (acc ++ [⟨1, [], 0, (pre.length : Int)⟩]) (ends_cl _) (by omega)
  have hl1 : (pre ++ [((40 : Int), false)]).length = pre.length + 1 := by simp
  rw [← ew, hl1] at g1
  exact g1
/-- A text with which lexing stops with a fault wherever it stands. -/
def TxtB (l : List UInt8) : Prop := Lib.validD l = true ∧ LexBad (lets l)
theorem txb_l {l m : List UInt8} (hl : TxtB l) (hm : Lib.validD m = true) : TxtB (l ++ 32 :: m) := by
  refine ⟨?_, ?_⟩
  · rw [valid_app _ hl.1, show (32 : UInt8) :: m = [32] ++ m from rfl, valid_asciis [32] m (by decide)]
    exact hm
  · rw [lets_app _ _ hl.1, lets_ascii 32 (by decide)]
    exact bad_sp_l hl.2
theorem txb_r {l m : List UInt8} {ks : List Tok} (hl : Txt l ks) (hm : TxtB m) : TxtB (l ++ 32 :: m) := by
  refine ⟨?_, ?_⟩
  · rw [valid_app _ hl.1, show (32 : UInt8) :: m = [32] ++ m from rfl, valid_asciis [32] m (by decide)]
    exact hm.1
  · rw [lets_app _ _ hl.1, lets_ascii 32 (by decide)]
    exact bad_sp_r hl.2 hm.2
theorem txb_par {l : List UInt8} (hl : TxtB l) : TxtB (40 :: l ++ [41]) := by
  refine ⟨?_, ?_⟩
  · rw [show (40 :: l ++ [41] : List UInt8) = [40] ++ (l ++ [41]) from rfl, valid_asciis [40] _ (by decide), valid_app _ hl.1]
    decide +kernel
  · rw [show (40 :: l ++ [41] : List UInt8) = 40 :: (l ++ [41]) from rfl, lets_ascii 40 (by decide), lets_app _ _ hl.1, show lets [41] = [(41, false)] by rw [lets_ascii 41 (by decide)]; rfl]
    exact bad_par hl.2
theorem txb_lex {l : List UInt8} (h : TxtB l) : (lexP l).2.1 ≠ 0 := by
  obtain ⟨-, h1, h2, h3⟩ := h
  have h0 := h1 []
  rw [List.append_nil] at h0
  unfold lexP
  split
  · simp
  · rw [h0]
    have := h3 [] [] ((lets l).length + 1) [] (.inl rfl) (by omega)
    simpa using this
/-- Read as tokens, or none. -/
def TxtO (l : List UInt8) : Prop := TxtB l ∨ ∃ ks, Txt l ks
theorem TxtO.valid {l : List UInt8} (h : TxtO l) : Lib.validD l = true := by
  rcases h with h | ⟨ks, h⟩
  · exact h.1
  · exact h.1
theorem parts_bad : ∀ (l : List (List UInt8)) (h : List UInt8), TxtO h → (∀ x ∈ l, TxtO x) → (TxtB h ∨ ∃ x ∈ l, TxtB x) → TxtB (h ++ partsL l)
  | [], h, ho, hl, hb => by
    rcases hb with hb | ⟨x, hx, -⟩
    · simpa [partsL] using hb
    · cases hx
  | x :: l, h, ho, hl, hb => by
    have e : h ++ partsL (x :: l) = (h ++ 32 :: x) ++ partsL l := by simp [partsL]
    rw [e]
    have hx := hl x (by simp)
    have hl' : ∀ y ∈ l, TxtO y := fun y hy => hl y (by simp [hy])
    by_cases hhb : TxtB h
    · have := txb_l hhb hx.valid
      exact parts_bad l _ (.inl this) hl' (.inl this)
    · obtain ⟨ks, hk⟩ : ∃ ks, Txt h ks := by
        rcases ho with ho | ho
        · exact absurd ho hhb
        · exact ho
      by_cases hxb : TxtB x
      · have := txb_r hk hxb
        exact parts_bad l _ (.inl this) hl' (.inl this)
      · obtain ⟨us, hu⟩ : ∃ ks, Txt x ks := by
          rcases hx with hx | hx
          · exact absurd hx hxb
          · exact hx
        refine parts_bad l _ (.inr ⟨_, txt_sp hk hu⟩) hl' ?_
        rcases hb with hb | ⟨y, hy, hyb⟩
        · exact absurd hb hhb
        · rcases List.mem_cons.1 hy with rfl | hy
          · exact absurd hyb hxb
          · exact .inr ⟨y, hy, hyb⟩
theorem brackets_bad {h : List UInt8} {ks : List Tok} {l : List (List UInt8)} (hh : Txt h ks) (hl : ∀ x ∈ l, TxtO x) (hb : ∃ x ∈ l, TxtB x) : TxtB (bracketsP h l) := by
  have := txb_par (parts_bad l h (.inr ⟨_, hh⟩) hl (.inr hb))
  simpa [bracketsP] using this
/-- What a column's text is. -/
theorem col_parts {l : List UInt8} (h : isColP l = true) : Lib.validD l = true ∧ l ≠ [] ∧ begNum l = false ∧ ∀ x ∈ lets l, isEnd x.1 = false := by
  unfold isColP at h
  rcases cut_dot l with e | ⟨a, b, rfl, e⟩
  · rw [e] at h
    obtain ⟨h1, h2, h3, -, h5⟩ := name_parts (by simpa using h)
    obtain ⟨c, m, rfl⟩ := List.exists_cons_of_ne_nil h1
    exact ⟨h3, h1, begNum_name fun x L e => nameL_first h5 e, nameL_ends _ _ h5⟩
  · rw [e] at h
    simp only [Bool.not_true, Bool.false_or, Bool.and_eq_true] at h
    obtain ⟨a1, a2, a3, -, a5⟩ := name_parts h.1
    obtain ⟨b1, b2, b3, -, b5⟩ := name_parts h.2
    have hl : lets (a ++ 46 :: b) = lets a ++ (46, false) :: lets b := by rw [lets_app _ _ a3, lets_ascii 46 (by decide)]; rfl
    refine ⟨?_, by simp, ?_, ?_⟩
    · rw [valid_app _ a3, show (46 : UInt8) :: b = [46] ++ b from rfl, valid_asciis [46] b (by decide)]
      exact b3
    · obtain ⟨c, m, rfl⟩ := List.exists_cons_of_ne_nil a1
      refine begNum_name (l := m ++ 46 :: b) fun x L e => ?_
      have e2 : lets ((c :: m) ++ 46 :: b) = x :: L := e
      rw [hl] at e2
      cases hc : lets (c :: m) with
      | nil => rw [hc] at e2; rw [hc] at a5; obtain ⟨rs, r1, r2, r3⟩ := valid_runes _ _ (Nat.le_refl _) a3; rw [hc] at r3; cases rs with
        | nil => simp at r2
        | cons r rs => simp at r3
      | cons y Y =>
        rw [hc] at e2
        simp only [List.cons_append, List.cons.injEq] at e2
        rw [← e2.1]
        exact nameL_first a5 hc
    · intro x hx
      rw [hl] at hx
      rcases List.mem_append.1 hx with hx | hx
      · exact nameL_ends _ _ a5 x hx
      · rcases List.mem_cons.1 hx with rfl | hx
        · decide
        · exact nameL_ends _ _ b5 x hx
theorem bad_col {l : List UInt8} (h : isColP l = true) (h64 : 64 < l.length) : TxtB l := by
  obtain ⟨hv, hne, hb, he⟩ := col_parts h
  obtain ⟨rs, h1, h2, h3⟩ := valid_runes _ l (Nat.le_refl _) hv
  have hen : enc (lets l) = l := by rw [h3, enc_map, ← h2]
  have hbad : anyBad (lets l) = false := by rw [h3]; simp [anyBad]
  have hsn : lets l ≠ [] := fun e => hne (by rw [← hen, e]; rfl)
  have hw : wErr (enc (lets l)) ≠ 0 := by rw [hen]; unfold wErr; rw [if_neg (by rw [hb]; simp), if_pos h64]; decide
  exact ⟨hv, bad_word hsn he hbad hw⟩
theorem col_o {l : List UInt8} (h : isColP l = true) : TxtO l := by
  by_cases h64 : l.length ≤ 64
  · exact .inr ⟨_, txt_col h h64⟩
  · exact .inl (bad_col h (by omega))
/-- An expression with a column that is no atom. -/
theorem expr_go_bad : ∀ (l : List Stp) (E : List Ent), (∀ e ∈ E, e.ok ∨ TxtB e.s) → (∀ x ∈ l, I64 x.n) → rightL l E.length = true → ((∃ e ∈ E, TxtB e.s) ∨ ∃ x ∈ l, ¬ Fit x) → ∃ s, TxtB s ∧ exprGo l (E.map (·.s)) = [s]
  | [], E, hE, _, hr, hb => by
    have h1 : E.length = 1 := by simpa [rightL] using hr
    match E, h1 with
    | [e], _ =>
      rcases hb with ⟨e', he, hb⟩ | ⟨x, hx, -⟩
      · rw [List.mem_singleton.1 he] at hb
        exact ⟨e.s, hb, rfl⟩
      · cases hx
  | x :: l, E, hE, hf, hr, hb => by
    unfold rightL at hr
    split at hr
    · cases hr
    rename_i hc
    simp only [not_or, Bool.not_eq_false, Nat.not_lt] at hc
    obtain ⟨r1, r2⟩ := takes_of hc.1
    have hle := hc.2
    rw [r2] at hr hle
    have hD : ∀ e ∈ E.drop (E.length - takesN x.k), e.ok ∨ TxtB e.s := fun e he => hE e (List.mem_of_mem_drop he)
    have hT : ∀ e ∈ E.take (E.length - takesN x.k), e.ok ∨ TxtB e.s := fun e he => hE e (List.mem_of_mem_take he)
    have hlen : (E.drop (E.length - takesN x.k)).length = takesN x.k := by rw [List.length_drop]; omega
    have key : ∃ ks, (Ent.ok ⟨writeStepP x ((E.drop (E.length - takesN x.k)).map (·.s)), ks, (E.drop (E.length - takesN x.k)).flatMap (·.ls) ++ [x]⟩ ∧ Fit x ∧ ¬ ∃ e ∈ E.drop (E.length - takesN x.k), TxtB e.s) ∨ TxtB (writeStepP x ((E.drop (E.length - takesN x.k)).map (·.s))) := by
      by_cases h6 : x.k ≤ 6
      · have h0 : takesN x.k = 0 := by unfold takesN; rw [if_pos h6]
        by_cases hft : Fit x
        · obtain ⟨ks, h⟩ := leaf_ent r1 hft h6
          refine ⟨ks, .inl ?_⟩
          rw [h0]
          simpa using ⟨h, hft⟩
        · refine ⟨[], .inr ?_⟩
          have hk6 : x.k = 6 ∧ 64 < x.t.length := by
            refine Classical.byContradiction fun hn => hft ⟨hf x (by simp), fun h6 => ?_⟩
            exact Nat.le_of_not_lt fun h => hn ⟨h6, h⟩
          have hcol : isColP x.t = true := by
            unfold rStepP at r1
            rw [if_neg (by omega), if_neg (by omega), if_neg (by omega), if_pos hk6.1] at r1
            simp only [Bool.and_eq_true] at r1
            exact r1.2
          unfold writeStepP
          rw [if_neg (by omega), if_neg (by omega), if_pos hk6.1]
          exact bad_col hcol hk6.2
      · have hft : Fit x := ⟨hf x (by simp), fun h => absurd h (by omega)⟩
        by_cases hbd : ∃ e ∈ E.drop (E.length - takesN x.k), TxtB e.s
        · refine ⟨[], .inr ?_⟩
          have r1' := r1
          unfold rStepP at r1'
          split at r1'
          · cases r1'
          rename_i h0
          obtain ⟨c1, c2, c3⟩ := stepText_op x.k (by omega) (by omega)
          obtain ⟨e, he, hb⟩ := hbd
          have hne : (E.drop (E.length - takesN x.k)).map (·.s) ≠ [] := by
            intro e0
            have := List.map_eq_nil_iff.1 e0
            rw [this] at he
            cases he
          unfold writeStepP
          rw [if_neg (by omega), if_neg (by omega), if_neg (by omega), if_neg hne]
          refine brackets_bad (txt_op c1) (fun y hy => ?_) ⟨e.s, List.mem_map_of_mem he, hb⟩
          obtain ⟨e', he', rfl⟩ := List.mem_map.1 hy
          rcases hD e' he' with h | h
          · exact .inr ⟨_, h.1⟩
          · exact .inl h
        · have hok : ∀ e ∈ E.drop (E.length - takesN x.k), e.ok := fun e he => by
            rcases hD e he with h | h
            · exact h
            · exact absurd ⟨e, he, h⟩ hbd
          obtain ⟨ks, h⟩ := oper_ent r1 (by omega) _ hok hlen
          exact ⟨ks, .inl ⟨h, hft, hbd⟩⟩
    obtain ⟨ks, hk⟩ := key
    obtain ⟨s, h1, h2⟩ := expr_go_bad l (E.take (E.length - takesN x.k) ++ [⟨writeStepP x ((E.drop (E.length - takesN x.k)).map (·.s)), ks, (E.drop (E.length - takesN x.k)).flatMap (·.ls) ++ [x]⟩]) (by
        intro e he
        rcases List.mem_append.1 he with he | he
        · exact hT e he
        · rw [List.mem_singleton.1 he]
          rcases hk with hk | hk
          · exact .inl hk.1
          · exact .inr hk) (fun y hy => hf y (by simp [hy])) (by
        rw [List.length_append, List.length_take, Nat.min_eq_left (by omega)]
        rw [show E.length - takesN x.k + [(⟨writeStepP x ((E.drop (E.length - takesN x.k)).map (·.s)), ks, (E.drop (E.length - takesN x.k)).flatMap (·.ls) ++ [x]⟩ : Ent)].length = E.length + 1 - takesN x.k by simp; omega]
        exact hr) (by
        rcases hk with ⟨-, hft, hnb⟩ | hk
        · rcases hb with ⟨e, he, hb⟩ | ⟨y, hy, hb⟩
          · have he2 := he
            rw [← List.take_append_drop (E.length - takesN x.k) E] at he2
            rcases List.mem_append.1 he2 with he2 | he2
            · exact .inl ⟨e, List.mem_append_left _ he2, hb⟩
            · exact absurd ⟨e, he2, hb⟩ hnb
          · rcases List.mem_cons.1 hy with rfl | hy
            · exact absurd hft hb
            · exact .inr ⟨y, hy, hb⟩
        · exact .inl ⟨_, List.mem_append_right _ (List.mem_singleton.2 rfl), hk⟩)
    refine ⟨s, h1, ?_⟩
    rw [← h2]
    conv => lhs; unfold exprGo
    rw [r2, List.length_map, ← List.map_take, ← List.map_drop, List.map_append]
    rfl
theorem expr_bad {l : List Stp} (h : rightP l = true) (hn : ∀ x ∈ l, I64 x.n) (hb : ¬ ∀ x ∈ l, Fit x) : TxtB (exprP l) := by
  unfold rightP at h
  split at h
  · cases h
  obtain ⟨s, h1, h2⟩ := expr_go_bad l [] (by simp) hn h (.inr (by simpa using hb))
  unfold exprP
  rw [show ([] : List Ent).map (·.s) = [] from rfl] at h2
  rw [h2]
  exact h1
theorem expr_o {l : List Stp} (h : rightP l = true) (hn : ∀ x ∈ l, I64 x.n) : TxtO (exprP l) := by
  by_cases hf : ∀ x ∈ l, Fit x
  · obtain ⟨ks, h1, -⟩ := expr_el h hf
    exact .inr ⟨ks, h1⟩
  · exact .inl (expr_bad h hn hf)
theorem item_bad {x : Itm} (h : itemOkP x = true) (hn : ∀ y ∈ x.e, I64 y.n) (hb : ¬ ∀ y ∈ x.e, Fit y) : TxtB (writeItemP x) := by
  obtain ⟨g, e⟩ := x
  unfold itemOkP at h
  simp only at h hn hb
  have hg1 : g ≠ 1 := by
    rintro rfl
    rw [if_pos rfl] at h
    have : e = [] := by simpa using h
    exact hb (by rw [this]; simp)
  rw [if_neg hg1] at h
  simp only [Bool.and_eq_true, decide_eq_true_eq] at h
  have hB := expr_bad h.2 hn hb
  unfold writeItemP
  simp only
  by_cases g0 : g = 0
  · rw [if_pos g0]; exact hB
  · rw [if_neg g0, if_neg hg1]
    obtain ⟨c1, c2, c3⟩ := aggText_ok g h.1 (by omega)
    exact brackets_bad (txt_op c1) (fun y hy => by rw [List.mem_singleton.1 hy]; exact .inl hB) ⟨_, List.mem_singleton.2 rfl, hB⟩
theorem item_o {x : Itm} (h : itemOkP x = true) (hn : ∀ y ∈ x.e, I64 y.n) : TxtO (writeItemP x) := by
  by_cases hf : ∀ y ∈ x.e, Fit y
  · obtain ⟨ks, h1, -⟩ := item_el h hf
    exact .inr ⟨ks, h1⟩
  · exact .inl (item_bad h hn hf)
end Go.Proofs.YtnmmojhbcnlboaaGreatDoor
/- Two clauses of a query that stand twice, or in another order, are none. No walk stands in this text. -/
namespace Go.Proofs.YtnmmojhbcnlboaaGreatDoor
open Go.RowKit Go.Lib
set_option linter.unusedVariables false
set_option linter.unusedSimpArgs false
/-- It stops with a fault. -/
def Fails {α : Type} (r : Res α) : Prop := ∃ y a, r = .inl (y, a) ∧ y ≠ 0
theorem Deep.fails {α β : Type} {r : Res α} {x : α} {s : PS} {f : α → PS → Res β} (h : Deep r x s) (hf : Fails (f x s)) : Fails (andR r f) := by
  rcases h with h | ⟨a, h⟩
  · rw [h]; exact hf
  · rw [h]; exact ⟨10, a, rfl, by decide⟩
theorem Fails.and {α β : Type} {r : Res α} {f : α → PS → Res β} (h : Fails r) : Fails (andR r f) := by
  obtain ⟨y, a, h, h0⟩ := h
  rw [h]
  exact ⟨y, a, rfl, h0⟩
/-- Taking a token that may not come. -/
theorem take_not (en : Int) (P : Tok → Bool) (s : PS) (hP : comesP P s = false) : Fails (takeP en P s) := by
  unfold takeP
  split
  · exact ⟨10, _, rfl, by decide⟩
  · cases hs : s.ts with
    | nil => exact ⟨13, _, rfl, by decide⟩
    | cons t r =>
      simp only
      have ht : P t = false := by unfold comesP at hP; rw [hs] at hP; exact hP
      rw [if_neg (by rw [ht]; simp)]
      exact ⟨13, _, rfl, by decide⟩
/-- A clause's text with its number: its tokens are read as the clause, or it is none wherever it stands. -/
def Cls (n : Nat) (X : List UInt8) : Prop :=
  TxtB X ∨ ∃ parts us, X = bracketsP (wordP n) parts ∧ Txts parts us ∧ ∀ (q : Qry) (en : Int) (ts : List Tok) (cl : Tok) (rest : List Tok) (op : Int), ts.map zeroA = us → cl.k = 2 → ∃ q1, Deep (clauseR en n q ⟨ts ++ cl :: rest, op⟩) q1 ⟨cl :: rest, op⟩
theorem Cls.txt {n : Nat} (hn : n < 4) {X : List UInt8} (h : Cls n X) : TxtO X := by
  rcases h with h | ⟨parts, us, rfl, h, -⟩
  · exact .inl h
  · exact .inr ⟨_, txt_brackets (txt_op (wordP_ok n hn).1) h⟩
theorem wordP_late : ∀ n m : Nat, n < 4 → m ≤ n → (clausesP.drop (n + 1)).any (fun x => decide (x = wordP m)) = false := by
  intro n m hn hm
  have h : ∀ j : Fin 4, ∀ k : Fin 4, k.1 ≤ j.1 → (clausesP.drop (j.1 + 1)).any (fun x => decide (x = wordP k.1)) = false := by decide +kernel
  exact h ⟨n, hn⟩ ⟨m, by omega⟩ hm
theorem two_fail {n m : Nat} (hn : n < 4) (hm : m ≤ n) {T X Y : List UInt8} (hT : isNameP T = true) (hX : Cls n X) (hY : Cls m Y) : (parseP (bracketsP fromP [T, X, Y])).2.1 ≠ 0 := by
  have hfr : isOpWord fromP = true := by decide +kernel
  have hTx := txt_name hT
  by_cases hb : TxtB X ∨ TxtB Y
  · have := txb_lex (brackets_bad (l := [T, X, Y]) (txt_op hfr) (fun x hx => by
      simp at hx
      rcases hx with rfl | rfl | rfl
      · exact .inr ⟨_, hTx⟩
      · exact hX.txt hn
      · exact hY.txt (by omega)) (by
      rcases hb with hb | hb
      · exact ⟨X, by simp, hb⟩
      · exact ⟨Y, by simp, hb⟩))
    unfold parseP
    rw [if_pos this]
    exact this
  · rcases hX with hX | ⟨p1, u1, rfl, x1, x2⟩
    · exact absurd (.inl hX) hb
    rcases hY with hY | ⟨p2, u2, rfl, y1, y2⟩
    · exact absurd (.inr hY) hb
    have hx := txt_brackets (txt_op (wordP_ok n hn).1) x1
    have hy := txt_brackets (txt_op (wordP_ok m (by omega)).1) y1
    have ht := txt_brackets (txt_op hfr) (.cons hTx (.cons hx (.cons hy .nil)))
    by_cases hl : 2048 < (bracketsP fromP [T, bracketsP (wordP n) p1, bracketsP (wordP m) p2]).length
    · have : lexP (bracketsP fromP [T, bracketsP (wordP n) p1, bracketsP (wordP m) p2]) = ([], 4, 0) := by unfold lexP; rw [if_pos hl]
      unfold parseP
      rw [this, if_pos (by simp)]
      simp
    obtain ⟨ts, e1, hts⟩ := txt_lex ht (by omega)
    have key : Fails (wholeR ((lets (bracketsP fromP [T, bracketsP (wordP n) p1, bracketsP (wordP m) p2])).length : Int) ⟨ts, 0⟩) := by
      generalize ((lets (bracketsP fromP [T, bracketsP (wordP n) p1, bracketsP (wordP m) p2])).length : Int) = en
      obtain ⟨t1, r, rfl, q1, hr⟩ := List.map_eq_cons_iff.1 hts
      simp only [List.append_assoc, List.cons_append, List.nil_append, List.append_nil] at hr
      obtain ⟨t2, r, rfl, q2, hr⟩ := List.map_eq_cons_iff.1 hr
      obtain ⟨t3, r, rfl, q3, hr⟩ := List.map_eq_cons_iff.1 hr
      obtain ⟨t4, r, rfl, q4, hr⟩ := List.map_eq_cons_iff.1 hr
      obtain ⟨t5, r, rfl, q5, hr⟩ := List.map_eq_cons_iff.1 hr
      obtain ⟨ta, r, rfl, qa, hr⟩ := List.map_eq_append_iff.1 hr
      obtain ⟨t6, r, rfl, q6, hr⟩ := List.map_eq_cons_iff.1 hr
      obtain ⟨t7, r, rfl, q7, hr⟩ := List.map_eq_cons_iff.1 hr
      obtain ⟨t8, r, rfl, q8, hr⟩ := List.map_eq_cons_iff.1 hr
      have k1 : t1.k = 1 := by rw [zeroA_k q1]
      have k2 : t2.k = 3 ∧ t2.t = fromP := by rw [zeroA_k q2]; exact ⟨rfl, rfl⟩
      have k3 : t3.k = 3 ∧ t3.t = T := by rw [zeroA_k q3]; exact ⟨rfl, rfl⟩
      have k4 : t4.k = 1 := by rw [zeroA_k q4]
      have k5 : t5.k = 3 ∧ t5.t = wordP n := by rw [zeroA_k q5]; exact ⟨rfl, rfl⟩
      have k6 : t6.k = 2 := by rw [zeroA_k q6]
      have k7 : t7.k = 1 := by rw [zeroA_k q7]
      have k8 : t8.k = 3 ∧ t8.t = wordP m := by rw [zeroA_k q8]; exact ⟨rfl, rfl⟩
      obtain ⟨-, w2, w3⟩ := wordP_ok n hn
      unfold wholeR
      refine Fails.and ?_
      unfold queryR
      refine (take_open en opnP t1 _ 0 k1 (by simp [opnP, k1])).fails ?_
      rw [take_at en _ t2 _ (0 + 1) (by omega) (by simp [atomP, k2])]
      simp only [andR]
      rw [if_neg (by omega), take_at en namP t3 _ (0 + 1) (by omega) (by unfold namP; rw [k3.2, hT]; simp [k3.1])]
      simp only [andR]
      rw [if_neg (by omega)]
      obtain ⟨q', hq'⟩ := x2 ⟨[], t3.t, [], [], [], [], []⟩ en ta t6 (t7 :: t8 :: r) (0 + 1 + 1) qa k6
      have hcl : ∀ q0, clausesR en 5 0 q0 ⟨t4 :: t5 :: (ta ++ t6 :: t7 :: t8 :: r), 0 + 1⟩ = andR (takeP en opnP ⟨t4 :: t5 :: (ta ++ t6 :: t7 :: t8 :: r), 0 + 1⟩) fun _ s => andR (clauseM en 0 q0 s) fun y s => andR (takeP en clsP s) fun _ s => clausesR en 4 y.2 y.1 s := fun q0 => clausesR_go ⟨by omega, by simp [comesP, clsP, k4]⟩
      by_cases h3 : n + 1 < 4
      · refine Fails.and ?_
        rw [hcl]
        refine (take_open en opnP t4 _ _ k4 (by simp [opnP, k4])).fails ?_
        refine Deep.fails (x := (q', n + 1)) (s := ⟨t6 :: t7 :: t8 :: r, 0 + 1 + 1⟩) ?_ ?_
        · unfold clauseM
          rw [take_at en _ t5 _ (0 + 1 + 1) (by omega) (by unfold atomP; rw [k5.2, w3 0 (by omega)]; simp [k5.1])]
          simp only [andR]
          rw [if_neg (by omega), k5.2, w2]
          exact hq'.and (.inl rfl)
        · rw [take_at en clsP t6 _ _ (by omega) (by simp [clsP, k6])]
          simp only [andR]
          rw [if_pos k6]
          rw [clausesR_go (f := 3) ⟨h3, by simp [comesP, clsP, k7]⟩]
          refine (take_open en opnP t7 _ _ k7 (by simp [opnP, k7])).fails ?_
          refine Fails.and ?_
          unfold clauseM
          refine Fails.and (take_not en _ _ ?_)
          simp [comesP, atomP, k8.1]
          have := wordP_late n m hn hm
          rw [List.any_eq_false] at this
          intro x hx
          have := this x hx
          rw [k8.2]
          simpa using this
      · refine Deep.fails (x := q') (s := ⟨t7 :: t8 :: r, 0 + 1⟩) ?_ ?_
        · rw [hcl]
          refine (take_open en opnP t4 _ _ k4 (by simp [opnP, k4])).and ?_
          refine Deep.and (x := (q', n + 1)) (s := ⟨t6 :: t7 :: t8 :: r, 0 + 1 + 1⟩) ?_ ?_
          · unfold clauseM
            rw [take_at en _ t5 _ (0 + 1 + 1) (by omega) (by unfold atomP; rw [k5.2, w3 0 (by omega)]; simp [k5.1])]
            simp only [andR]
            rw [if_neg (by omega), k5.2, w2]
            exact hq'.and (.inl rfl)
          · rw [take_at en clsP t6 _ _ (by omega) (by simp [clsP, k6])]
            simp only [andR]
            rw [if_pos k6, clausesR_stop (by omega)]
            left
            rfl
        · exact Fails.and (take_not en _ _ (by simp [comesP, clsP, k7]))
    obtain ⟨y, a, hk, hy0⟩ := key
    have hr : readP (bracketsP fromP [T, bracketsP (wordP n) p1, bracketsP (wordP m) p2]) = (zeroQ, y, a) := by unfold readP; rw [e1]; simp only; rw [hk]; rfl
    unfold parseP
    rw [e1, hr]
    simp only
    rw [if_neg (by simp), if_pos hy0]
    exact hy0
/-- The clauses of a right query. -/
theorem cls_join {q : Qry} (h : queryOkP q = true) (hj : q.j ≠ []) : Cls 0 (bracketsP (wordP 0) [q.j, q.a, q.b]) := by
  unfold queryOkP at h
  simp only [Bool.and_eq_true] at h
  have hj' := h.2.1
  unfold joinOkP at hj'
  rw [if_neg hj] at hj'
  simp only [Bool.and_eq_true, decide_eq_true_eq] at hj'
  obtain ⟨j1, -, j2, j3⟩ := hj'
  by_cases hf : q.a.length ≤ 64 ∧ q.b.length ≤ 64
  · right
    have ht : Txts [q.j, q.a, q.b] [⟨3, q.j, 0, 0⟩, ⟨3, q.a, 0, 0⟩, ⟨3, q.b, 0, 0⟩] := .cons (txt_name j1) (.cons (txt_col j2 hf.1) (.cons (txt_col j3 hf.2) .nil))
    refine ⟨_, _, rfl, ht, fun q0 en ts cl rest op hts hc => ?_⟩
    obtain ⟨t1, r1, rfl, e1, hr⟩ := List.map_eq_cons_iff.1 hts
    obtain ⟨t2, r2, rfl, e2, hr2⟩ := List.map_eq_cons_iff.1 hr
    obtain ⟨t3, r3, rfl, e3, hr3⟩ := List.map_eq_cons_iff.1 hr2
    obtain rfl : r3 = [] := by simpa using hr3
    have k1 := zeroA_k e1
    have k2 := zeroA_k e2
    have k3 := zeroA_k e3
    generalize t1.a = a1 at k1
    generalize t2.a = a2 at k2
    generalize t3.a = a3 at k3
    subst k1 k2 k3
    refine ⟨⟨q0.i, q0.t, q.j, q.a, q.b, q0.w, q0.g⟩, .inl ?_⟩
    unfold clauseR colR
    simp only [List.cons_append, List.nil_append]
    rw [take_at en namP _ _ op (by simp) (by unfold namP; rw [j1]; rfl)]
    simp only [andR]
    rw [if_neg (by omega), take_at en colP _ _ op (by simp) (by unfold colP; rw [j2]; rfl)]
    simp only [andR]
    rw [if_neg (by omega), take_at en colP _ _ op (by simp) (by unfold colP; rw [j3]; rfl)]
    simp only [andR]
    rw [if_neg (by omega)]
  · left
    refine brackets_bad (txt_op (wordP_ok 0 (by omega)).1) (fun x hx => ?_) ?_
    · simp at hx
      rcases hx with rfl | rfl | rfl
      · exact .inr ⟨_, txt_name j1⟩
      · exact col_o j2
      · exact col_o j3
    · by_cases ha : q.a.length ≤ 64
      · exact ⟨q.b, by simp, bad_col j3 (by omega)⟩
      · exact ⟨q.a, by simp, bad_col j2 (by omega)⟩
theorem cls_where {q : Qry} (h : queryOkP q = true) (hn : ∀ x ∈ q.w, I64 x.n) (hw : q.w ≠ []) : Cls 1 (bracketsP (wordP 1) [exprP q.w]) := by
  unfold queryOkP at h
  simp only [Bool.and_eq_true] at h
  have hw' := h.2.2.1
  unfold whereOkP at hw'
  have hwr : rightP q.w = true := by simpa [hw] using hw'
  by_cases hf : ∀ x ∈ q.w, Fit x
  · right
    obtain ⟨ks, h1, -, -, h3⟩ := expr_el hwr hf
    have h1' : Txts [exprP q.w] ks := by have := Txts.cons h1 .nil; simpa using this
    refine ⟨_, _, rfl, h1', fun q0 en ts cl rest op hts hc => ⟨⟨q0.i, q0.t, q0.j, q0.a, q0.b, q.w, q0.g⟩, ?_⟩⟩
    unfold clauseR
    exact (h3.2 en ts (cl :: rest) op hts).and (.inl rfl)
  · left
    have hB := expr_bad hwr hn hf
    exact brackets_bad (txt_op (wordP_ok 1 (by omega)).1) (fun x hx => by rw [List.mem_singleton.1 hx]; exact .inl hB) ⟨_, List.mem_singleton.2 rfl, hB⟩
theorem cls_get {q : Qry} (h : queryOkP q = true) (hn : ∀ x ∈ q.i, ∀ y ∈ x.e, I64 y.n) (hi : q.i ≠ []) : Cls 3 (bracketsP (wordP 3) (q.i.map writeItemP)) := by
  unfold queryOkP at h
  simp only [Bool.and_eq_true] at h
  have hi' := h.2.2.2.1
  unfold itemsOkP at hi'
  split at hi'
  · cases hi'
  rename_i h8
  rw [List.all_eq_true] at hi'
  by_cases hf : ∀ x ∈ q.i, ∀ y ∈ x.e, Fit y
  · right
    obtain ⟨us, u1, u2⟩ := els_of (β := Unit) (read := itemR) (P := fun t => lefP t || opnP t) writeItemP q.i fun x hx => item_el (hi' x hx) (hf x hx)
    refine ⟨_, _, rfl, u1, fun q0 en ts cl rest op hts hc => ⟨⟨q.i, q0.t, q0.j, q0.a, q0.b, q0.w, q0.g⟩, ?_⟩⟩
    unfold clauseR
    exact (many_ok en cl (by simp [opnP, lefP, leafP, colP, hc]) rest op u2 hi (by omega) ts hts).and (.inl rfl)
  · left
    have hb : ∃ x ∈ q.i, ¬ ∀ y ∈ x.e, Fit y := by
      refine Classical.byContradiction fun hnb => hf fun x hx => ?_
      exact Classical.byContradiction fun hc => hnb ⟨x, hx, hc⟩
    obtain ⟨x, hx, hb⟩ := hb
    refine brackets_bad (txt_op (wordP_ok 3 (by omega)).1) (fun y hy => ?_) ⟨_, List.mem_map_of_mem hx, item_bad (hi' x hx) (hn x hx) hb⟩
    obtain ⟨z, hz, rfl⟩ := List.mem_map.1 hy
    exact item_o (hi' z hz) (hn z hz)
/-- What stands ahead of a query's clauses in its text. -/
def frontP (q : Qry) : List UInt8 := 40 :: fromP ++ partsL [q.t]
theorem text_front (q : Qry) (C : List (List UInt8)) : bracketsP fromP ([q.t] ++ C) = frontP q ++ partsL C ++ [41] := by
  unfold bracketsP frontP
  rw [partsL_app]
  simp
theorem parts_one (q : Qry) (X Y : List UInt8) : frontP q ++ (partsL [X] ++ partsL [Y]) ++ [41] = bracketsP fromP [q.t, X, Y] := by
  rw [← partsL_app, ← text_front]
  rfl
/-- No two clauses of a right query may stand the other way round, or twice. -/
theorem six_ok {q : Qry} (h : queryOkP q = true) (hn : NumQ q) {a b c : List UInt8} (ha : a = partsL (joinL q)) (hb : b = partsL (whereL q)) (hc : c = partsL (getL q)) : ∀ x ∈ [b ++ a, c ++ b, c ++ a, a ++ a, b ++ b, c ++ c], x = a ∨ x = b ∨ x = c ∨ (parseP (frontP q ++ x ++ [41])).2.1 ≠ 0 := by
  have hT : isNameP q.t = true := by
    have := h
    unfold queryOkP at this
    simp only [Bool.and_eq_true] at this
    exact this.1
  have oj : a = [] ∨ ∃ X, a = partsL [X] ∧ Cls 0 X := by
    rw [ha]
    unfold joinL
    split
    · exact .inl rfl
    · rename_i hj; exact .inr ⟨_, rfl, cls_join h hj⟩
  have ow : b = [] ∨ ∃ X, b = partsL [X] ∧ Cls 1 X := by
    rw [hb]
    unfold whereL
    split
    · exact .inl rfl
    · rename_i hj; exact .inr ⟨_, rfl, cls_where h hn.w hj⟩
  have og : c = [] ∨ ∃ X, c = partsL [X] ∧ Cls 3 X := by
    rw [hc]
    unfold getL
    split
    · exact .inl rfl
    · rename_i hj; exact .inr ⟨_, rfl, cls_get h hn.i hj⟩
  have key : ∀ {n m : Nat} {y z : List UInt8}, n < 4 → m ≤ n → (y = [] ∨ ∃ X, y = partsL [X] ∧ Cls n X) → (z = [] ∨ ∃ X, z = partsL [X] ∧ Cls m X) → y ++ z = y ∨ y ++ z = z ∨ (parseP (frontP q ++ (y ++ z) ++ [41])).2.1 ≠ 0 := by
    intro n m y z hn4 hm hy hz
    rcases hy with rfl | ⟨X, rfl, hX⟩
    · exact .inr (.inl rfl)
    · rcases hz with rfl | ⟨Y, rfl, hY⟩
      · exact .inl (List.append_nil _)
      · right; right
        rw [parts_one]
        exact two_fail hn4 hm hT hX hY
  intro x hx
  simp only [List.mem_cons, List.not_mem_nil, or_false] at hx
  rcases hx with rfl | rfl | rfl | rfl | rfl | rfl
  · rcases key (by omega) (by omega) ow oj with h | h | h
    · exact .inr (.inl h)
    · exact .inl h
    · exact .inr (.inr (.inr h))
  · rcases key (by omega) (by omega) og ow with h | h | h
    · exact .inr (.inr (.inl h))
    · exact .inr (.inl h)
    · exact .inr (.inr (.inr h))
  · rcases key (by omega) (by omega) og oj with h | h | h
    · exact .inr (.inr (.inl h))
    · exact .inl h
    · exact .inr (.inr (.inr h))
  · rcases key (by omega) (by omega) oj oj with h | h | h
    · exact .inl h
    · exact .inl h
    · exact .inr (.inr (.inr h))
  · rcases key (by omega) (by omega) ow ow with h | h | h
    · exact .inr (.inl h)
    · exact .inr (.inl h)
    · exact .inr (.inr (.inr h))
  · rcases key (by omega) (by omega) og og with h | h | h
    · exact .inr (.inr (.inl h))
    · exact .inr (.inr (.inl h))
    · exact .inr (.inr (.inr h))
end Go.Proofs.YtnmmojhbcnlboaaGreatDoor
/- A right query of whatever size is a small one; the queries that are made of its parts. -/
namespace Go.Proofs.YtnmmojhbcnlboaaGreatDoor
open Go.RowKit Go.Lib
set_option linter.unusedVariables false
set_option linter.unusedSimpArgs false
theorem ListIs.each {α : Type} {rel : Rel α} {size bytes : Nat} {K : Nat → Prop} {W : World} {v : Value} {xs : List α} (h : ListIs rel size bytes K W v xs) : ∀ x ∈ xs, ∃ cs, rel K W cs x := by
  obtain ⟨q, c, rfl, hb, h⟩ := h
  intro x hx
  obtain ⟨j, hj, rfl⟩ := List.getElem_of_mem hx
  obtain ⟨b, o, rfl, hK, h⟩ := h (by omega)
  obtain ⟨cs, _, _, h3⟩ := h j hj
  exact ⟨cs, h3⟩
theorem QLsW.num {K : Nat → Prop} {w : World} {pi pw pg : Option Addr} {ci cw cg : Nat} {q : Qry} (h : QLsW K w pi pw pg ci cw cg q) : NumQ q := by
  refine ⟨fun x hx => ?_, fun x hx y hy => ?_⟩
  · obtain ⟨cs, -, hk⟩ := h.lw.each x hx
    exact hk.2.1
  · obtain ⟨cs, v, -, hl, -⟩ := h.li.each x hx
    obtain ⟨cs, -, hk⟩ := hl.each y hy
    exact hk.2.1
theorem right_parts {q : Qry} (h : queryOkP q = true) : q.t.length ≤ 64 ∧ q.j.length ≤ 64 ∧ q.a.length ≤ 129 ∧ q.b.length ≤ 129 ∧ (∀ x ∈ q.g, x.length ≤ 129) ∧ (q.w = [] ∨ rightP q.w = true) ∧ ∀ x ∈ q.i, x.e = [] ∨ rightP x.e = true := by
  unfold queryOkP at h
  simp only [Bool.and_eq_true] at h
  obtain ⟨hn, hj, hw, hi, hg⟩ := h
  have hj3 : q.j.length ≤ 64 ∧ q.a.length ≤ 129 ∧ q.b.length ≤ 129 := by
    unfold joinOkP at hj
    split at hj
    · rename_i h0
      simp only [Bool.and_eq_true, decide_eq_true_eq] at hj
      rw [h0, hj.1, hj.2]
      simp
    · simp only [Bool.and_eq_true] at hj
      exact ⟨(name_parts hj.1).2.1, col_len hj.2.2.1, col_len hj.2.2.2⟩
  refine ⟨(name_parts hn).2.1, hj3.1, hj3.2.1, hj3.2.2, fun x hx => ?_, ?_, fun x hx => ?_⟩
  · unfold groupOkP at hg
    split at hg
    · cases hg
    · split at hg
      · cases hg
      · rename_i hall
        exact col_len (List.all_eq_true.1 (by simpa using hall) x hx)
  · unfold whereOkP at hw
    rcases (Bool.or_eq_true _ _).mp hw with h | h
    · exact .inl (of_decide_eq_true h)
    · exact .inr h
  · unfold itemsOkP at hi
    split at hi
    · cases hi
    · have := List.all_eq_true.1 hi x hx
      unfold itemOkP at this
      split at this
      · exact .inl (of_decide_eq_true this)
      · simp only [Bool.and_eq_true] at this
        exact .inr this.2
theorem right_len {l : List Stp} (h : l = [] ∨ rightP l = true) : l.length ≤ 64 := by
  rcases h with rfl | h
  · simp
  · unfold rightP at h
    split at h
    · cases h
    · omega
theorem right_each {l : List Stp} (h : l = [] ∨ rightP l = true) : ∀ x ∈ l, rStepP x = true := by
  rcases h with rfl | h
  · simp
  · unfold rightP at h
    split at h
    · cases h
    · exact right_all l 0 h
/-- A right query is small. -/
theorem QLsW.narrow {K : Nat → Prop} {w : World} {pi pw pg : Option Addr} {ci cw cg : Nat} {q : Qry} (h : QLsW K w pi pw pg ci cw cg q) (hok : queryOkP q = true) : QLs K w pi pw pg ci cw cg q := by
  obtain ⟨h1, h2, h3, h4, h5, h6, h7⟩ := right_parts hok
  refine ⟨h.li.rel fun cs x hx ⟨v, e, hl, hg⟩ => ⟨v, e, hl.rel fun cs y hy hk => ⟨hk.1, okP_of (right_each (h7 x hx) y hy) hk.2.2.1⟩, hg, right_len (h7 x hx)⟩, h.lw.rel fun cs y hy hk => ⟨hk.1, okP_of (right_each h6 y hy) hk.2.2.1⟩, h.lg.rel fun cs x hx hk => ⟨hk.1, by have := h5 x hx; omega⟩, by omega, by omega, by omega, by omega⟩
def bareQ (q : Qry) : Qry := ⟨[], q.t, [], [], [], [], []⟩
def joinQ (q : Qry) : Qry := ⟨[], q.t, q.j, q.a, q.b, [], []⟩
def whereQ (q : Qry) : Qry := ⟨[], q.t, [], [], [], q.w, []⟩
def getQ (q : Qry) : Qry := ⟨q.i, q.t, [], [], [], [], []⟩
theorem parts_ok {q : Qry} (h : queryOkP q = true) : queryOkP (bareQ q) = true ∧ queryOkP (joinQ q) = true ∧ queryOkP (whereQ q) = true ∧ queryOkP (getQ q) = true := by
  unfold queryOkP at h
  simp only [Bool.and_eq_true] at h
  obtain ⟨hn, hj, hw, hi, hg⟩ := h
  have j0 : ∀ (i : List Itm) (w : List Stp) (g : List (List UInt8)), joinOkP ⟨i, q.t, [], [], [], w, g⟩ = true := fun _ _ _ => rfl
  have g0 : ∀ (i : List Itm) (j a b : List UInt8) (w : List Stp), groupOkP ⟨i, q.t, j, a, b, w, []⟩ = true := fun i _ _ _ _ => rfl
  have w0 : whereOkP [] = true := rfl
  have i0 : itemsOkP [] = true := rfl
  refine ⟨?_, ?_, ?_, ?_⟩
  · unfold queryOkP bareQ
    simp only [Bool.and_eq_true]
    exact ⟨hn, j0 _ _ _, w0, i0, g0 _ _ _ _ _⟩
  · unfold queryOkP joinQ
    simp only [Bool.and_eq_true]
    exact ⟨hn, hj, w0, i0, g0 _ _ _ _ _⟩
  · unfold queryOkP whereQ
    simp only [Bool.and_eq_true]
    exact ⟨hn, j0 _ _ _, hw, i0, g0 _ _ _ _ _⟩
  · unfold queryOkP getQ
    simp only [Bool.and_eq_true]
    exact ⟨hn, j0 _ _ _, w0, hi, g0 _ _ _ _ _⟩
theorem parts_text (q : Qry) : queryTextP (bareQ q) = frontP q ++ [41] ∧ queryTextP (joinQ q) = frontP q ++ partsL (joinL q) ++ [41] ∧ queryTextP (whereQ q) = frontP q ++ partsL (whereL q) ++ [41] ∧ queryTextP (getQ q) = frontP q ++ partsL (getL q) ++ [41] := by
  have e1 : ∀ X : Qry, X.j = [] → joinL X = [] := fun X h => by unfold joinL; rw [if_pos h]
  have e2 : ∀ X : Qry, X.w = [] → whereL X = [] := fun X h => by unfold whereL; rw [if_pos h]
  have e3 : ∀ X : Qry, X.g = [] → groupL X = [] := fun X h => by unfold groupL; rw [if_pos h]
  have e4 : ∀ X : Qry, X.i = [] → getL X = [] := fun X h => by unfold getL; rw [if_pos h]
  refine ⟨?_, ?_, ?_, ?_⟩
  · unfold queryTextP
    rw [e1 (bareQ q) rfl, e2 (bareQ q) rfl, e3 (bareQ q) rfl, e4 (bareQ q) rfl]
    have := text_front q []
    simpa [partsL, bareQ] using this
  · unfold queryTextP
    rw [e2 (joinQ q) rfl, e3 (joinQ q) rfl, e4 (joinQ q) rfl]
    have := text_front q (joinL q)
    rw [← this]
    simp only [List.append_nil]
    rfl
  · unfold queryTextP
    rw [e1 (whereQ q) rfl, e3 (whereQ q) rfl, e4 (whereQ q) rfl]
    have := text_front q (whereL q)
    rw [← this]
    simp only [List.append_nil]
    rfl
  · unfold queryTextP
    rw [e1 (getQ q) rfl, e2 (getQ q) rfl, e3 (getQ q) rfl]
    have := text_front q (getL q)
    rw [← this]
    simp only [List.append_nil]
    rfl
/-- What Print answers of a right query. -/
theorem print_right (K : Nat → Prop) (pi pw pg : Option Addr) (ci cw cg : Nat) (q : Qry) (w : World) (h : QLs K w pi pw pg ci cw cg q) (hK : ∀ b, K b → b < w.heap.size) (hG : GA w) (hok : queryOkP q = true) (T : ByteArray) (hT : T.data.toList = queryTextP q) : Calls Tryz.prog 4 #[.agg (q.cl (.slice pi q.i.length ci) (.slice pw q.w.length cw) (.slice pg q.g.length cg))] w fun e w' => e = .returned (.tuple #[.string T, .int .i64 0]) ∧ Below w.heap.size w w' := by
  have hp : printP q = (queryTextP q, 0) := by unfold printP checkQ; rw [if_pos hok]; rfl
  have := print_any K pi pw pg ci cw cg q w h hK hG.gw hG.g2
  rw [hp] at this
  rw [← hT] at this
  exact this
theorem ls_none {α : Type} (rel : Rel α) (size bytes : Nat) (K : Nat → Prop) (W : World) : ListIs rel size bytes K W (.slice none ([] : List α).length 0) ([] : List α) := ⟨none, 0, rfl, by simp, fun h => absurd h (by simp)⟩
end Go.Proofs.YtnmmojhbcnlboaaGreatDoor
