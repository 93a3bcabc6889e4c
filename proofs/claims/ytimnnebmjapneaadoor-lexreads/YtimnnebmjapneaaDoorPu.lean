/- Tokens that are shown, with what parts them behind each: they are read as they were, but for their places. No walk stands in this text. -/
import Derived.Test.YtimnnebmjapneaaDoorPb
import Derived.Test.YtimnnebmjapneaaDoorPt
namespace Go.Proofs.YtimnnebmjapneaaDoor
open Go.RowKit Go.Lib
set_option linter.unusedVariables false
set_option linter.unusedSimpArgs false

/-- Nothing, or what ends a word. -/
def Ends (L : List Let) : Prop := L = [] ∨ ∃ y r, L = y :: r ∧ isEnd y.1 = true
/-- Letters that are read as a token wherever they stand. -/
def Solid (A : List Let) (t : Tok) : Prop :=
  (∀ L, skipL false (A ++ L) = 0) ∧ A ≠ [] ∧ ∀ (ls : List Let) (p : Nat) (L : List Let), Ends L → ls.drop p = A ++ L → tokAns ls p = ⟨{ t with a := (p : Int) }, ((p + A.length : Nat) : Int), 0⟩
theorem lets_encs : ∀ (rs : List Nat) (m : List UInt8), (∀ r ∈ rs, okR r) → lets ((rs.flatMap fun (r : Nat) => Lib.encodeRune (r : Int)) ++ m) = rs.map (fun (r : Nat) => ((r : Int), false)) ++ lets m
  | [], m, _ => rfl
  | r :: rs, m, h => by
    rw [List.flatMap_cons, List.append_assoc, lets_enc r (h r (by simp)), lets_encs rs m fun x hx => h x (by simp [hx])]
    rfl
theorem lets_app (s m : List UInt8) (hv : Lib.validD s = true) : lets (s ++ m) = lets s ++ lets m := by
  obtain ⟨rs, h1, h2, h3⟩ := valid_runes _ s (Nat.le_refl _) hv
  rw [h3]
  rw [h2]
  exact lets_encs rs m h1
theorem valid_encs : ∀ rs : List Nat, (∀ r ∈ rs, okR r) → Lib.validD (rs.flatMap fun (r : Nat) => Lib.encodeRune (r : Int)) = true
  | [], _ => rfl
  | r :: rs, h => by
    rw [List.flatMap_cons, valid_enc r (h r (by simp))]
    exact valid_encs rs fun x hx => h x (by simp [hx])
/-- Letters that are no bad ones are their runes. -/
theorem runes_of : ∀ seg : List Let, (∀ x ∈ seg, okZ x.1) → anyBad seg = false → ∃ rs : List Nat, (∀ r ∈ rs, okR r) ∧ seg = rs.map (fun (r : Nat) => ((r : Int), false))
  | [], _, _ => ⟨[], by simp, rfl⟩
  | x :: seg, h, hb => by
    have hb' : x.2 = false ∧ anyBad seg = false := by
      unfold anyBad at hb ⊢
      simpa using hb
    obtain ⟨rs, h1, h2⟩ := runes_of seg (fun y hy => h y (by simp [hy])) hb'.2
    obtain ⟨r, hr, hv⟩ := h x (by simp)
    refine ⟨r :: rs, ?_, ?_⟩
    · intro y hy
      rcases List.mem_cons.1 hy with rfl | hy
      · exact hv
      · exact h1 y hy
    · rw [h2]
      obtain ⟨x1, x2⟩ := x
      simp only at hr hb'
      rw [hr, hb'.1]
      rfl
theorem enc_map (rs : List Nat) : enc (rs.map (fun (r : Nat) => ((r : Int), false))) = rs.flatMap fun (r : Nat) => Lib.encodeRune (r : Int) := by
  unfold enc
  rw [List.flatMap_map]
theorem wlen_ends : ∀ l : List Let, ∀ x ∈ l.take (wlen l), isEnd x.1 = false
  | [], x, h => by simp at h
  | y :: l, x, h => by
    unfold wlen at h
    by_cases e : isEnd y.1 = true
    · rw [if_pos e] at h; simp at h
    · rw [if_neg e, List.take_succ_cons] at h
      rcases List.mem_cons.1 h with rfl | h
      · simpa using e
      · exact wlen_ends l x h
theorem end_parts {c : Int} (h : isEnd c = false) : isBl c = false ∧ c ≠ 59 ∧ c ≠ 40 ∧ c ≠ 41 ∧ c ≠ 34 := by
  unfold isEnd at h
  simp only [Bool.or_eq_false_iff, beq_eq_false_iff_ne] at h
  exact ⟨h.1.1.1.1, h.1.1.1.2, h.1.1.2, h.1.2, h.2⟩
theorem solid_word (seg : List Let) (hne : seg ≠ []) (he : ∀ x ∈ seg, isEnd x.1 = false) (hb : anyBad seg = false) (hw : wErr (enc seg) = 0) : Solid seg (wTok (enc seg)) := by
  obtain ⟨y, r, rfl⟩ := List.exists_cons_of_ne_nil hne
  have hy := end_parts (he y (by simp))
  refine ⟨fun L => by simp [skipL, hy.1, hy.2.1], hne, fun ls p L hL hd => ?_⟩
  have hwl : wlen ((y :: r) ++ L) = (y :: r).length := wlen_app _ _ he hL
  unfold tokAns
  rw [hd]
  simp only [List.cons_append]
  rw [if_neg hy.2.2.1, if_neg hy.2.2.2.1, if_neg hy.2.2.2.2]
  unfold wordAns
  simp only
  rw [hd, hwl, List.take_left, hb, if_neg (by simp), if_pos hw]
theorem wTok_a (l : List UInt8) (a : Int) (t : Tok) (h : { wTok l with a := a } = t) : wTok l = { t with a := (wTok l).a } := by
  rw [← h]
theorem lexP_first (l : List UInt8) (x : Tok) (q : Int) (h : lexP l = ([x], 0, q)) : ∃ p : Nat, p < (lets l).length ∧ (tokAns (lets l) p).err = 0 ∧ (tokAns (lets l) p).tok = x := by
  unfold lexP at h
  by_cases hl : 2048 < l.length
  · rw [if_pos hl] at h; simp at h
  rw [if_neg hl] at h
  by_cases hp : skipL false (lets l) < (lets l).length
  · rw [lexGo_step _ _ _ _ hp] at h
    by_cases he : (tokAns (lets l) (skipL false (lets l))).err = 0
    · rw [if_pos he] at h
      obtain ⟨more, hm⟩ := lexGo_begins _ _ _ _ _ _ h
      simp only [List.nil_append, List.cons_append, List.cons.injEq] at hm
      exact ⟨_, hp, he, hm.1.symm⟩
    · rw [if_neg he] at h; simp at h
  · rw [lexGo_end _ _ _ _ hp] at h
    simp at h
theorem valid_asciis : ∀ (bs : List UInt8) (m : List UInt8), (∀ b ∈ bs, b.toNat < 128) → Lib.validD (bs ++ m) = Lib.validD m
  | [], m, _ => rfl
  | b :: bs, m, h => by
    rw [List.cons_append, Lib.validD_cons b _ (h b (by simp)), valid_asciis bs m fun x hx => h x (by simp [hx])]
theorem valid_q (r : Nat) (hv : okR r) (m : List UInt8) : Lib.validD (qR (r : Int) ++ m) = Lib.validD m := by
  unfold qR
  by_cases h1 : r = 34 ∨ r = 92
  · rw [if_pos (by omega), List.cons_append, Lib.validD_cons 92 _ (by decide), valid_enc r hv]
  rw [if_neg (by omega)]
  by_cases h2 : r < 32 ∨ r = 127
  · rw [if_pos (by omega), Int.toNat_natCast, valid_asciis]
    intro b hb
    have := hexS_ascii r (by omega)
    simp only [List.mem_append, List.mem_cons, List.not_mem_nil, or_false] at hb
    rcases hb with (h | h) | h
    · rcases h with rfl | rfl | rfl <;> decide
    · exact this b h
    · subst h; decide
  · rw [if_neg (by omega), valid_enc r hv]
theorem valid_qs : ∀ (rs : List Nat) (m : List UInt8), (∀ r ∈ rs, okR r) → Lib.validD ((rs.flatMap fun (r : Nat) => qR (r : Int)) ++ m) = Lib.validD m
  | [], m, _ => rfl
  | r :: rs, m, h => by
    rw [List.flatMap_cons, List.append_assoc, valid_q r (h r (by simp)), valid_qs rs m fun x hx => h x (by simp [hx])]
/-- A token that is shown is solid. -/
theorem solid_of (t : Tok) (h : readsP (writeP t) t = true) (hn0 : -9223372036854775808 ≤ t.n) (hn1 : t.n ≤ 9223372036854775807) (hl : t.t.length ≤ 256) : Lib.validD (writeP t) = true ∧ Solid (lets (writeP t)) t := by
  obtain ⟨p, pl, hp⟩ := reads_of h
  obtain ⟨k, tt, n, a⟩ := t
  simp only at hn0 hn1 hl hp
  by_cases k1 : k = 1
  · subst k1
    have hw : writeP ⟨1, tt, n, a⟩ = [40] := by simp [writeP]
    rw [hw] at hp ⊢
    have h0 : lexP [40] = ([⟨1, [], 0, 0⟩], 0, 0) := by kernel_rfl
    rw [h0] at hp
    simp only [Prod.mk.injEq, List.cons.injEq, Tok.mk.injEq, and_true, true_and] at hp
    obtain ⟨⟨rfl, rfl, _⟩, _⟩ := hp
    have hl0 : lets [40] = [(40, false)] := by decide +kernel
    rw [hl0]
    refine ⟨by decide +kernel, fun L => by simp [skipL, isBl], by simp, fun ls q L hL hd => ?_⟩
    unfold tokAns
    rw [hd]
    simp
  by_cases k2 : k = 2
  · subst k2
    have hw : writeP ⟨2, tt, n, a⟩ = [41] := by simp [writeP]
    rw [hw] at hp ⊢
    have h0 : lexP [41] = ([⟨2, [], 0, 0⟩], 0, 0) := by kernel_rfl
    rw [h0] at hp
    simp only [Prod.mk.injEq, List.cons.injEq, Tok.mk.injEq, and_true, true_and] at hp
    obtain ⟨⟨rfl, rfl, _⟩, _⟩ := hp
    have hl0 : lets [41] = [(41, false)] := by decide +kernel
    rw [hl0]
    refine ⟨by decide +kernel, fun L => by simp [skipL, isBl], by simp, fun ls q L hL hd => ?_⟩
    unfold tokAns
    rw [hd]
    simp
  by_cases k3 : k = 3
  · subst k3
    have hw : writeP ⟨3, tt, n, a⟩ = tt := by simp [writeP]
    rw [hw] at hp ⊢
    obtain ⟨q, hq, he, hx⟩ := lexP_first _ _ _ hp
    have hall : ∀ x ∈ lets tt, okZ x.1 := letL_ok tt.length tt
    unfold tokAns at he hx
    rw [drop_at _ q hq] at he hx
    simp only at he hx
    by_cases c1 : (lets tt)[q].1 = 40
    · rw [if_pos c1] at hx; simp at hx
    rw [if_neg c1] at he hx
    by_cases c2 : (lets tt)[q].1 = 41
    · rw [if_pos c2] at hx; simp at hx
    rw [if_neg c2] at he hx
    by_cases c3 : (lets tt)[q].1 = 34
    · rw [if_pos c3] at he hx
      unfold textAns at he hx
      cases ht : textL ((lets tt).length + 1) ((lets tt).drop (q + 1)) with
      | none => rw [ht] at he; simp at he
      | some y =>
        rw [ht] at he hx
        simp only at he hx
        split at hx
        · simp [noTok] at hx
        · split at hx
          · simp [noTok] at hx
          · simp at hx
    rw [if_neg c3] at he hx
    obtain ⟨seg, hseg⟩ : ∃ s, ((lets tt).drop q).take (wlen ((lets tt).drop q)) = s := ⟨_, rfl⟩
    have hends : ∀ x ∈ seg, isEnd x.1 = false := by rw [← hseg]; exact wlen_ends _
    have hok : ∀ x ∈ seg, okZ x.1 := by
      intro x hx
      rw [← hseg] at hx
      exact hall x (List.mem_of_mem_drop (List.mem_of_mem_take hx))
    unfold wordAns at he hx
    simp only at he hx
    rw [hseg] at he hx
    by_cases hb : anyBad seg = true
    · rw [hb] at hx; simp [noTok] at hx
    rw [if_neg hb] at he hx
    by_cases hwe : wErr (enc seg) = 0
    · rw [if_pos hwe] at hx
      simp only at hx
      have hbf : anyBad seg = false := by simpa using hb
      have hwt : wTok (enc seg) = ⟨3, enc seg, 0, 0⟩ := by
        unfold wTok at hx ⊢
        by_cases hn : begNum (enc seg) = true
        · rw [hn] at hx
          simp only [if_true] at hx
          unfold numTok at hx
          split at hx
          · simp at hx
          · simp [noTok] at hx
        · rw [if_neg hn] at hx ⊢
          by_cases h64 : 64 < (enc seg).length
          · rw [if_pos h64] at hx; simp [noTok] at hx
          · rw [if_neg h64]
      rw [hwt] at hx
      simp only [Tok.mk.injEq, true_and] at hx
      obtain ⟨htt, hn, _⟩ := hx
      obtain ⟨rs, r1, r2⟩ := runes_of seg hok hbf
      have hls : lets tt = seg := by
        rw [← htt, r2, enc_map]
        have := lets_encs rs [] r1
        simpa [lets_nil] using this
      have hne : seg ≠ [] := by
        intro e
        rw [hls, e] at hq
        simp at hq
      refine ⟨?_, ?_⟩
      · rw [← htt, r2, enc_map]
        exact valid_encs rs r1
      · rw [hls]
        have hs := solid_word seg hne hends hbf hwe
        rw [hwt, htt] at hs
        subst hn
        exact hs
    · rw [if_neg hwe] at hx; simp [noTok] at hx
  by_cases k4 : k = 4
  · subst k4
    have hw : writeP ⟨4, tt, n, a⟩ = itoa n := by simp [writeP]
    rw [hw] at hp ⊢
    rw [lex_num n hn0 hn1] at hp
    simp only [Prod.mk.injEq, List.cons.injEq, Tok.mk.injEq, and_true, true_and] at hp
    obtain ⟨⟨rfl, _⟩, _⟩ := hp
    have hasc : ∀ c ∈ itoa n, c.toNat < 128 := fun c hc => numB_asc (itoa_num n c hc)
    have hl0 := lets_asc' (itoa n) hasc
    refine ⟨?_, ?_⟩
    · have := Lib.validD_ascii (itoa n).length (itoa n) (by intro b hb; exact hasc b (List.mem_of_mem_take hb))
      rw [this]
      simp [Lib.validD_nil]
    · rw [hl0]
      refine ⟨fun L => skip_num n L, ?_, fun ls q L hL hd => ?_⟩
      · intro e
        have := itoa_ne n
        apply this
        have h2 := congrArg enc e
        rw [enc_asc _ hasc] at h2
        exact h2
      · have := tok_num ls q n L hn0 hn1 hd hL
        rw [this]
        simp [ascL]
  by_cases k5 : k = 5
  · subst k5
    have hw : writeP ⟨5, tt, n, a⟩ = quoteP tt := by simp [writeP]
    rw [hw] at hp ⊢
    obtain ⟨hn, hv⟩ : n = 0 ∧ Lib.validD tt = true := by
      obtain ⟨q, hq, he, hx⟩ := lexP_first _ _ _ hp
      have hall : ∀ x ∈ lets (quoteP tt), okZ x.1 := letL_ok _ _
      generalize lets (quoteP tt) = ls at hq he hx hall
      unfold tokAns at he hx
      rw [drop_at _ q hq] at he hx
      simp only at he hx
      by_cases c1 : ls[q].1 = 40
      · rw [if_pos c1] at hx; simp at hx
      rw [if_neg c1] at he hx
      by_cases c2 : ls[q].1 = 41
      · rw [if_pos c2] at hx; simp at hx
      rw [if_neg c2] at he hx
      by_cases c3 : ls[q].1 = 34
      · rw [if_pos c3] at he hx
        unfold textAns at he hx
        cases ht : textL (ls.length + 1) (ls.drop (q + 1)) with
        | none => rw [ht] at he; simp at he
        | some y =>
          rw [ht] at he hx
          simp only at he hx
          have hy := textL_valid _ _ y (fun x hx => hall x (List.mem_of_mem_drop hx)) ht
          split at hx
          · simp [noTok] at hx
          · split at hx
            · simp [noTok] at hx
            · simp only [Tok.mk.injEq, true_and] at hx
              exact ⟨hx.2.1.symm, by rw [← hx.1]; exact hy⟩
      · exfalso
        rw [if_neg c3] at hx
        unfold wordAns at hx
        simp only at hx
        split at hx
        · simp [noTok] at hx
        · split at hx
          · simp only [wTok] at hx
            split at hx
            · unfold numTok at hx
              split at hx
              · simp at hx
              · simp [noTok] at hx
            · split at hx
              · simp [noTok] at hx
              · simp at hx
          · simp [noTok] at hx
    subst hn
    obtain ⟨rs, h1, h2, h3⟩ := valid_runes _ tt (Nat.le_refl _) hv
    have hls : lets (quoteP tt) = qls rs := by
      have := lets_quote tt rs h1 h3 []
      simpa [lets_nil] using this
    refine ⟨?_, ?_⟩
    · have hq : quoteL (lets tt) = rs.flatMap fun (r : Nat) => qR (r : Int) := by
        rw [h3]
        unfold quoteL
        rw [List.flatMap_map]
      unfold quoteP
      rw [hq]
      show Lib.validD (34 :: ((rs.flatMap fun (r : Nat) => qR (r : Int)) ++ [34])) = true
      rw [Lib.validD_cons 34 _ (by decide), valid_qs rs _ h1]
      decide +kernel
    · rw [hls]
      refine ⟨fun L => skip_q rs L, by simp [qls], fun ls q L hL hd => ?_⟩
      have := tok_text ls q rs L hd (by rw [← h2]; exact hl)
      rw [this, ← h2]
  · have hw : writeP ⟨k, tt, n, a⟩ = [] := by simp [writeP, k1, k2, k3, k4, k5]
    rw [hw] at hp
    have h0 : lexP [] = ([], 0, 0) := by kernel_rfl
    rw [h0] at hp
    simp at hp
/-- What parts tokens: its letters, and that they end a word and are passed. -/
def Sep (sep : List UInt8) (sl : List Let) : Prop := (∀ m, lets (sep ++ m) = sl ++ lets m) ∧ (∀ R, skipL false (sl ++ R) = sl.length + skipL false R) ∧ ∀ R, Ends (sl ++ R)
theorem sep0 : Sep [32] [(32, false)] := ⟨fun m => lets_asciis [32] m (by decide), fun R => by simp [skipL, isBl]; omega, fun R => .inr ⟨_, _, rfl, by decide⟩⟩
theorem sep1 : Sep [9, 13, 10] [(9, false), (13, false), (10, false)] := ⟨fun m => lets_asciis [9, 13, 10] m (by decide), fun R => by simp [skipL, isBl]; omega, fun R => .inr ⟨_, _, rfl, by decide⟩⟩
theorem sep2 : Sep [59, 195, 169, 41, 10] [(59, false), (233, false), (41, false), (10, false)] := by
  refine ⟨fun m => ?_, fun R => by simp [skipL, isBl]; omega, fun R => .inr ⟨_, _, rfl, by decide⟩⟩
  have h := lets_encs [59, 233, 41, 10] m (by intro r hr; simp at hr; unfold okR; omega)
  have he : ([59, 233, 41, 10] : List Nat).flatMap (fun (r : Nat) => Lib.encodeRune (r : Int)) = [59, 195, 169, 41, 10] := by decide +kernel
  rw [he] at h
  exact h
theorem sep3 : Sep [32, 59, 32, 34, 10, 32] [(32, false), (59, false), (32, false), (34, false), (10, false), (32, false)] := ⟨fun m => lets_asciis [32, 59, 32, 34, 10, 32] m (by decide), fun R => by simp [skipL, isBl]; omega, fun R => .inr ⟨_, _, rfl, by decide⟩⟩
def zeroA (t : Tok) : Tok := { t with a := 0 }
/-- Tokens shown, with what parts them behind each. -/
def backT (sep : List UInt8) (ts : List Tok) : List UInt8 := ts.flatMap fun t => writeP t ++ sep
theorem backT_app (sep : List UInt8) (ts : List Tok) (t : Tok) : backT sep (ts ++ [t]) = backT sep ts ++ (writeP t ++ sep) := by simp [backT]
theorem lex_back (sep : List UInt8) (sl : List Let) (hs : Sep sep sl) : ∀ (ts : List Tok), (∀ t ∈ ts, Lib.validD (writeP t) = true ∧ Solid (lets (writeP t)) t) →
    skipL false (lets (backT sep ts)) = 0 ∧ ∀ (pre : List Let) (acc : List Tok) (f : Nat), (lets (backT sep ts)).length < f → ∃ R, lexGo (pre ++ lets (backT sep ts)) f pre.length acc = (acc ++ R, 0, 0) ∧ R.map zeroA = ts.map zeroA
  | [], _ => by
    refine ⟨rfl, fun pre acc f hf => ⟨[], ?_, rfl⟩⟩
    rw [lexGo_end _ _ _ _ (by simp [backT, lets_nil])]
    simp
  | t :: ts, h => by
    obtain ⟨hv, hsk, hne, hso⟩ := h t (by simp)
    obtain ⟨ih1, ih2⟩ := lex_back sep sl hs ts fun x hx => h x (by simp [hx])
    have hl : lets (backT sep (t :: ts)) = lets (writeP t) ++ (sl ++ lets (backT sep ts)) := by
      rw [show backT sep (t :: ts) = writeP t ++ (sep ++ backT sep ts) by simp [backT], lets_app _ _ hv, hs.1]
    rw [hl]
    refine ⟨hsk _, fun pre acc f hf => ?_⟩
    obtain ⟨f, rfl⟩ : ∃ g, f = g + 1 := ⟨f - 1, by omega⟩
    have hpos : 0 < (lets (writeP t)).length := List.length_pos_iff.2 hne
    have hd : (pre ++ (lets (writeP t) ++ (sl ++ lets (backT sep ts)))).drop pre.length = lets (writeP t) ++ (sl ++ lets (backT sep ts)) := List.drop_left
    have htk := hso _ _ _ (hs.2.2 _) hd
    rw [lexGo_step _ _ _ _ (by simp; omega), htk]
    simp only [if_true, Int.toNat_natCast]
    have hd2 : (pre ++ (lets (writeP t) ++ (sl ++ lets (backT sep ts)))).drop (pre.length + (lets (writeP t)).length) = sl ++ lets (backT sep ts) := by
      rw [← List.drop_drop, hd]
      exact List.drop_left
    rw [hd2, hs.2.1, ih1, Nat.add_zero]
    obtain ⟨R, hR, hRz⟩ := ih2 (pre ++ (lets (writeP t) ++ sl)) (acc ++ [{ t with a := (pre.length : Int) }]) f (by simp only [List.length_append] at hf ⊢; omega)
    refine ⟨{ t with a := (pre.length : Int) } :: R, ?_, ?_⟩
    · have e1 : pre ++ (lets (writeP t) ++ sl) ++ lets (backT sep ts) = pre ++ (lets (writeP t) ++ (sl ++ lets (backT sep ts))) := by simp
      have e2 : (pre ++ (lets (writeP t) ++ sl)).length = pre.length + (lets (writeP t)).length + sl.length := by simp; omega
      rw [e1, e2] at hR
      rw [hR]
      simp
    · simp only [List.map_cons, hRz]
      rfl
/-- Tokens that are shown, with what parts them behind each, are read as they were, but for their places. -/
theorem lexP_back (sep : List UInt8) (sl : List Let) (hs : Sep sep sl) (ts : List Tok) (h : ∀ t ∈ ts, Lib.validD (writeP t) = true ∧ Solid (lets (writeP t)) t) (hl : (backT sep ts).length ≤ 2048) :
    ∃ R, lexP (backT sep ts) = (R, 0, 0) ∧ R.map zeroA = ts.map zeroA := by
  obtain ⟨h1, h2⟩ := lex_back sep sl hs ts h
  obtain ⟨R, hR, hz⟩ := h2 [] [] ((lets (backT sep ts)).length + 1) (by omega)
  refine ⟨R, ?_, hz⟩
  unfold lexP
  rw [if_neg (by omega), h1]
  simpa using hR
end Go.Proofs.YtimnnebmjapneaaDoor
