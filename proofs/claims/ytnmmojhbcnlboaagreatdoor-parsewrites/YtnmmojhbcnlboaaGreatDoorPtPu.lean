/- A right text is shown so that it is read as itself, also ahead of another one; one that is shown is right. No walk stands in this text. -/
import Derived.Test.YtnmmojhbcnlboaaGreatDoorPsPpPnPw
import Derived.Lib.ValidU
import Derived.Lib.ValidLaws
import Derived.Test.YtnmmojhbcnlboaaGreatDoorPaPb
namespace Go.Proofs.YtnmmojhbcnlboaaGreatDoor
open Go.RowKit Go.Lib
set_option linter.unusedVariables false
set_option linter.unusedSimpArgs false
theorem encR_eq (r : Nat) (hv : okR r) : Lib.encodeRune (r : Int) = (Utf8.encode r).data.toList := by
  have v : Utf8.valid (r : Int) = true := by unfold okR at hv; simp [Utf8.valid]; omega
  unfold Lib.encodeRune
  unfold okR at hv
  by_cases c1 : r < 128
  · rw [Lib.encodeRuneZ_one (by omega) (by omega)]
    simp only [Utf8.encode, v, if_true, Int.toNat_natCast, c1, List.map_cons, List.map_nil]
  by_cases c2 : r < 2048
  · have e1 : (192 + (r : Int) / 64).toNat = 192 + r / 64 := by omega
    have e2 : (128 + (r : Int) % 64).toNat = 128 + r % 64 := by omega
    rw [Lib.encodeRuneZ_two (by omega) (by omega)]
    simp only [Utf8.encode, v, if_true, Int.toNat_natCast, c1, c2, if_false, List.map_cons, List.map_nil, e1, e2]
  by_cases c3 : r < 65536
  · have e1 : (224 + (r : Int) / 4096).toNat = 224 + r / 4096 := by omega
    have e2 : (128 + (r : Int) / 64 % 64).toNat = 128 + r / 64 % 64 := by omega
    have e3 : (128 + (r : Int) % 64).toNat = 128 + r % 64 := by omega
    have hz : Lib.encodeRuneZ (r : Int) = [224 + (r : Int) / 4096, 128 + (r : Int) / 64 % 64, 128 + (r : Int) % 64] := by
      unfold Lib.encodeRuneZ
      rw [if_neg (by omega), if_neg (by omega), if_pos (by omega)]
    rw [hz]
    simp only [Utf8.encode, v, if_true, Int.toNat_natCast, c1, c2, c3, if_false, List.map_cons, List.map_nil, e1, e2, e3]
  · have e1 : (240 + (r : Int) / 262144).toNat = 240 + r / 262144 := by omega
    have e2 : (128 + (r : Int) / 4096 % 64).toNat = 128 + r / 4096 % 64 := by omega
    have e3 : (128 + (r : Int) / 64 % 64).toNat = 128 + r / 64 % 64 := by omega
    have e4 : (128 + (r : Int) % 64).toNat = 128 + r % 64 := by omega
    have hz : Lib.encodeRuneZ (r : Int) = [240 + (r : Int) / 262144, 128 + (r : Int) / 4096 % 64, 128 + (r : Int) / 64 % 64, 128 + (r : Int) % 64] := by
      unfold Lib.encodeRuneZ
      rw [if_neg (by omega), if_neg (by omega), if_neg (by omega), if_pos (by omega)]
    rw [hz]
    simp only [Utf8.encode, v, if_true, Int.toNat_natCast, c1, c2, c3, if_false, List.map_cons, List.map_nil, e1, e2, e3, e4]
theorem dec_r (r : Nat) (hv : okR r) (m : List UInt8) : decodeL (Lib.encodeRune (r : Int) ++ m) = (r, (Lib.encodeRune (r : Int)).length) := by
  rw [encR_eq r hv]
  exact dec_enc r hv m
theorem encR_ne (r : Nat) (hv : okR r) (m : List UInt8) : Lib.encodeRune (r : Int) ++ m ≠ [] := by
  intro e
  have hw := Lib.decodeL_width (Lib.encodeRune (r : Int) ++ m)
  rw [dec_r r hv m] at hw
  have := congrArg List.length e
  rw [List.length_append] at this
  simp only [List.length_nil] at this
  simp only at hw
  omega
theorem enc_65533 : Lib.encodeRune ((65533 : Nat) : Int) = [239, 191, 189] := by decide +kernel
/-- The letters of a rune that is encoded. -/
theorem lets_enc (r : Nat) (hv : okR r) (m : List UInt8) : lets (Lib.encodeRune (r : Int) ++ m) = ((r : Int), false) :: lets m := by
  have hd := dec_r r hv m
  have hbd : badL (Lib.encodeRune (r : Int) ++ m) = false := by
    unfold badL
    rw [hd]
    by_cases h : r = 65533
    · subst h
      rw [enc_65533]
      simp [Lib.hasPrefix]
    · simp [h]
  rw [lets_cons _ (encR_ne r hv m), hd, hbd, List.drop_left]
theorem lets_ascii (b : UInt8) (hb : b.toNat < 128) (m : List UInt8) : lets (b :: m) = ((b.toNat : Int), false) :: lets m := by
  have hd : decodeL (b :: m) = (b.toNat, 1) := by rw [decodeL_N]; exact decodeN_ascii _ _ _ _ _ (by simpa using hb)
  have hbd : badL (b :: m) = false := by
    unfold badL
    rw [hd]
    have : b.toNat ≠ 65533 := by omega
    simp [this]
  rw [lets_cons _ (by simp), hd, hbd]
  rfl
theorem lets_asciis : ∀ (bs : List UInt8) (m : List UInt8), (∀ b ∈ bs, b.toNat < 128) → lets (bs ++ m) = bs.map (fun b => ((b.toNat : Int), false)) ++ lets m
  | [], m, _ => rfl
  | b :: bs, m, h => by
    rw [List.cons_append, lets_ascii b (h b (by simp)), lets_asciis bs m fun x hx => h x (by simp [hx])]
    rfl
/-- A rune's letters as it is shown. -/
def lq (r : Nat) : List Let :=
  if r = 34 ∨ r = 92 then [(92, false), ((r : Int), false)]
  else if r < 32 ∨ r = 127 then [(92, false), (117, false), (123, false)] ++ (hexS r).map (fun b => ((b.toNat : Int), false)) ++ [(125, false)]
  else [((r : Int), false)]
theorem hexS_ascii (r : Nat) (h : r < 128) : ∀ b ∈ hexS r, b.toNat < 128 := by
  have : ∀ r : Fin 128, ∀ b ∈ hexS r.val, b.toNat < 128 := by decide +kernel
  exact this ⟨r, h⟩
theorem lets_q (r : Nat) (hv : okR r) (m : List UInt8) : lets (qR (r : Int) ++ m) = lq r ++ lets m := by
  unfold qR lq
  by_cases h1 : r = 34 ∨ r = 92
  · rw [if_pos h1, if_pos (by omega), List.cons_append, lets_ascii 92 (by decide), lets_enc r hv]
    rfl
  rw [if_neg h1, if_neg (by omega)]
  by_cases h2 : r < 32 ∨ r = 127
  · rw [if_pos h2, if_pos (by omega), Int.toNat_natCast]
    rw [lets_asciis]
    · simp
    · intro b hb
      have := hexS_ascii r (by omega)
      simp only [List.mem_append, List.mem_cons, List.not_mem_nil, or_false] at hb
      rcases hb with (h | h) | h
      · rcases h with rfl | rfl | rfl <;> decide
      · exact this b h
      · subst h; decide
  · rw [if_neg h2, if_neg (by omega), lets_enc r hv]
    rfl
theorem lets_qs : ∀ (rs : List Nat) (m : List UInt8), (∀ r ∈ rs, okR r) → lets ((rs.flatMap fun (r : Nat) => qR (r : Int)) ++ m) = rs.flatMap lq ++ lets m
  | [], m, _ => rfl
  | r :: rs, m, h => by
    rw [List.flatMap_cons, List.flatMap_cons, List.append_assoc, lets_q r (h r (by simp)), lets_qs rs m fun x hx => h x (by simp [hx]), List.append_assoc]
theorem esc_ctrl (r : Nat) (h : r < 32 ∨ r = 127) (L : List Let) : escL ([(117, false), (123, false)] ++ (hexS r).map (fun b => ((b.toNat : Int), false)) ++ [(125, false)] ++ L) = some ((r : Int), (hexS r).length + 3) := by
  have : r = 0 ∨ r = 1 ∨ r = 2 ∨ r = 3 ∨ r = 4 ∨ r = 5 ∨ r = 6 ∨ r = 7 ∨ r = 8 ∨ r = 9 ∨ r = 10 ∨ r = 11 ∨ r = 12 ∨ r = 13 ∨ r = 14 ∨ r = 15 ∨ r = 16 ∨ r = 17 ∨ r = 18 ∨ r = 19 ∨ r = 20 ∨ r = 21 ∨ r = 22 ∨ r = 23 ∨ r = 24 ∨ r = 25 ∨ r = 26 ∨ r = 27 ∨ r = 28 ∨ r = 29 ∨ r = 30 ∨ r = 31 ∨ r = 127 := by omega
  rcases this with rfl | rfl | rfl | rfl | rfl | rfl | rfl | rfl | rfl | rfl | rfl | rfl | rfl | rfl | rfl | rfl | rfl | rfl | rfl | rfl | rfl | rfl | rfl | rfl | rfl | rfl | rfl | rfl | rfl | rfl | rfl | rfl | rfl
  all_goals rfl
theorem lq_len (r : Nat) : 1 ≤ (lq r).length := by
  unfold lq
  split
  · simp
  split
  · simp
  · simp
/-- A rune that is shown, read within a text. -/
theorem textL_q (r f : Nat) (L : List Let) : textL (f + 1) (lq r ++ L) = (textL f L).map fun y => (y.1, Lib.encodeRune (r : Int) ++ y.2.1, (lq r).length + y.2.2) := by
  unfold lq
  by_cases h1 : r = 34 ∨ r = 92
  · rw [if_pos h1]
    have he : escL (((r : Int), false) :: L) = some ((r : Int), 1) := by rcases h1 with rfl | rfl <;> rfl
    simp only [List.cons_append, List.nil_append, textL, he]
    simp [Nat.add_comm, Nat.add_left_comm]
  rw [if_neg h1]
  by_cases h2 : r < 32 ∨ r = 127
  · rw [if_pos h2]
    have he := esc_ctrl r h2 L
    have hd : (([(117, false), (123, false)] ++ (hexS r).map (fun b => ((b.toNat : Int), false)) ++ [(125, false)] ++ L : List Let)).drop ((hexS r).length + 3) = L := by
      apply List.drop_left'
      simp
    have hl : ([(92, false), (117, false), (123, false)] ++ (hexS r).map (fun b => ((b.toNat : Int), false)) ++ [(125, false)] ++ L : List Let) = (92, false) :: ([(117, false), (123, false)] ++ (hexS r).map (fun b => ((b.toNat : Int), false)) ++ [(125, false)] ++ L) := by simp
    rw [hl]
    simp only [textL, he, hd]
    simp only [List.length_append, List.length_cons, List.length_nil, List.length_map]
    simp [Nat.add_comm, Nat.add_left_comm]
  · rw [if_neg h2]
    have a1 : ¬ ((r : Int) = 34) := by omega
    have a2 : ¬ ((r : Int) = 92) := by omega
    simp only [List.cons_append, List.nil_append, textL, a1, a2, if_false]
    simp
theorem textL_qs : ∀ (rs : List Nat) (f : Nat) (b : Bool) (L : List Let), rs.length < f → textL f (rs.flatMap lq ++ (34, b) :: L) = some (false, rs.flatMap (fun (r : Nat) => Lib.encodeRune (r : Int)), (rs.flatMap lq).length)
  | [], 0, b, L, h => by simp at h
  | [], f + 1, b, L, h => rfl
  | r :: rs, 0, b, L, h => by simp at h
  | r :: rs, f + 1, b, L, h => by
    rw [List.flatMap_cons, List.append_assoc, textL_q, textL_qs rs f b L (by simp at h; omega)]
    simp
/-- The runes of a text that is UTF-8. -/
theorem valid_runes : ∀ (n : Nat) (l : List UInt8), l.length ≤ n → Lib.validD l = true → ∃ rs : List Nat, (∀ r ∈ rs, okR r) ∧ l = rs.flatMap (fun (r : Nat) => Lib.encodeRune (r : Int)) ∧ lets l = rs.map (fun (r : Nat) => ((r : Int), false))
  | n, [], _, _ => ⟨[], by simp, rfl, rfl⟩
  | 0, b :: l, h, _ => by simp at h
  | n + 1, b :: l, h, hv => by
    have hne : b :: l ≠ [] := by simp
    rw [Lib.validD_step _ hne] at hv
    by_cases hb : (decodeL (b :: l)).1 = 65533 ∧ (decodeL (b :: l)).2 = 1
    · rw [if_pos hb] at hv; cases hv
    rw [if_neg hb] at hv
    have he := Lib.encode_decode (b :: l) hne hb
    have hok := okR_of (b :: l)
    have hw := Lib.decodeL_width (b :: l)
    obtain ⟨rs, h1, h2, h3⟩ := valid_runes n ((b :: l).drop (decodeL (b :: l)).2) (by rw [List.length_drop]; omega) hv
    generalize (decodeL (b :: l)).1 = r at he hok
    generalize (decodeL (b :: l)).2 = k at he h2 h3
    have hl : b :: l = Lib.encodeRune (r : Int) ++ (b :: l).drop k := by rw [he, List.take_append_drop]
    refine ⟨r :: rs, ?_, ?_, ?_⟩
    · intro x hx
      rcases List.mem_cons.1 hx with rfl | hx
      · exact hok
      · exact h1 x hx
    · rw [List.flatMap_cons, ← h2]
      exact hl
    · rw [hl, lets_enc r hok, h3]
      rfl
/-- A text's letters as it is shown. -/
def qls (rs : List Nat) : List Let := (34, false) :: (rs.flatMap lq ++ [(34, false)])
theorem lets_quote (l : List UInt8) (rs : List Nat) (h1 : ∀ r ∈ rs, okR r) (h3 : lets l = rs.map (fun (r : Nat) => ((r : Int), false))) (m : List UInt8) : lets (quoteP l ++ m) = qls rs ++ lets m := by
  have hq : quoteL (lets l) = rs.flatMap fun (r : Nat) => qR (r : Int) := by
    rw [h3]
    unfold quoteL
    rw [List.flatMap_map]
  unfold quoteP qls
  rw [hq]
  rw [show [34] ++ (rs.flatMap fun (r : Nat) => qR (r : Int)) ++ [34] ++ m = 34 :: ((rs.flatMap fun (r : Nat) => qR (r : Int)) ++ (34 :: m)) by simp]
  rw [lets_ascii 34 (by decide), lets_qs rs _ h1, lets_ascii 34 (by decide)]
  simp
theorem flat_ge : ∀ rs : List Nat, rs.length ≤ (rs.flatMap lq).length
  | [] => by simp
  | r :: rs => by
    have h1 := lq_len r
    have h2 := flat_ge rs
    rw [List.flatMap_cons, List.length_append, List.length_cons]
    omega
/-- What is read where a text that is shown stands. -/
theorem tok_text (ls : List Let) (p : Nat) (rs : List Nat) (L : List Let) (hd : ls.drop p = qls rs ++ L) (hlen : (rs.flatMap fun (r : Nat) => Lib.encodeRune (r : Int)).length ≤ 256) :
    tokAns ls p = ⟨⟨5, rs.flatMap (fun (r : Nat) => Lib.encodeRune (r : Int)), 0, p⟩, ((p + (qls rs).length : Nat) : Int), 0⟩ := by
  have hd' : ls.drop p = (34, false) :: (rs.flatMap lq ++ (34, false) :: L) := by rw [hd]; simp [qls]
  have hd1 : ls.drop (p + 1) = rs.flatMap lq ++ (34, false) :: L := by
    rw [← List.drop_drop, hd']
    rfl
  have hll : (ls.drop p).length = 1 + ((rs.flatMap lq).length + (1 + L.length)) := by rw [hd']; simp; omega
  have hge := flat_ge rs
  rw [List.length_drop] at hll
  have ht := textL_qs rs (ls.length + 1) false L (by omega)
  unfold tokAns
  rw [hd']
  simp only
  rw [if_neg (by decide), if_neg (by decide), if_pos trivial]
  unfold textAns
  rw [hd1, ht]
  simp only
  rw [if_neg (by decide), if_neg (by omega)]
  simp [qls]
  omega
theorem skip_q (rs : List Nat) (L : List Let) : skipL false (qls rs ++ L) = 0 := by
  simp [qls, skipL, isBl]
theorem quote_len (l : List UInt8) : (quoteP l).length ≤ 6 * l.length + 2 := by
  have h1 := quoteL_len (lets l)
  have h2 := letL_le l.length l
  unfold quoteP
  simp only [List.length_append, List.length_cons, List.length_nil]
  have : (lets l).length ≤ l.length := h2
  omega
/-- A right text is shown so that it is read as itself. -/
theorem lex_one (l : List UInt8) (hv : Lib.validD l = true) (hl : l.length ≤ 256) : lexP (quoteP l) = ([⟨5, l, 0, 0⟩], 0, 0) := by
  obtain ⟨rs, h1, h2, h3⟩ := valid_runes _ l (Nat.le_refl _) hv
  have hq := quote_len l
  have hls : lets (quoteP l) = qls rs ++ [] := by
    have := lets_quote l rs h1 h3 []
    rwa [List.append_nil] at this
  unfold lexP
  rw [if_neg (by omega), hls, skip_q]
  have ht := tok_text (qls rs ++ []) 0 rs [] rfl (by rw [← h2]; exact hl)
  have hpos : 0 < (qls rs ++ []).length := by simp [qls]
  rw [lexGo_step _ _ _ _ hpos, ht]
  simp only [if_true]
  rw [lexGo_end _ _ _ _ (by simp), ← h2]
  rfl
/-- Two right texts, one behind the other. -/
theorem lex_two (a b : List UInt8) (ha : Lib.validD a = true) (hb : Lib.validD b = true) (la : a.length ≤ 256) (lb : b.length ≤ 256) (hl : (quoteP a ++ quoteP b).length ≤ 2048) : ∃ p : Nat, lexP (quoteP a ++ quoteP b) = ([⟨5, a, 0, 0⟩, ⟨5, b, 0, p⟩], 0, 0) := by
  obtain ⟨ra, a1, a2, a3⟩ := valid_runes _ a (Nat.le_refl _) ha
  obtain ⟨rb, b1, b2, b3⟩ := valid_runes _ b (Nat.le_refl _) hb
  have hlb : lets (quoteP b) = qls rb ++ [] := by
    have := lets_quote b rb b1 b3 []
    rwa [List.append_nil] at this
  have hls : lets (quoteP a ++ quoteP b) = qls ra ++ (qls rb ++ []) := by rw [lets_quote a ra a1 a3, hlb]
  refine ⟨(qls ra).length, ?_⟩
  unfold lexP
  rw [if_neg (by omega), hls, skip_q]
  have ht := tok_text (qls ra ++ (qls rb ++ [])) 0 ra (qls rb ++ []) rfl (by rw [← a2]; exact la)
  have hpos : 0 < (qls ra ++ (qls rb ++ [])).length := by simp [qls]
  have hdr : (qls ra ++ (qls rb ++ [])).drop (qls ra).length = qls rb ++ [] := List.drop_left
  have ht2 := tok_text (qls ra ++ (qls rb ++ [])) (qls ra).length rb [] hdr (by rw [← b2]; exact lb)
  have hpos2 : (qls ra).length < (qls ra ++ (qls rb ++ [])).length := by simp [qls]
  obtain ⟨F, hF⟩ : ∃ F, (qls ra ++ (qls rb ++ [])).length = F + 1 := ⟨_, (Nat.succ_pred_eq_of_pos hpos).symm⟩
  rw [hF, lexGo_step _ _ _ _ hpos, ht]
  simp only [if_true, Nat.zero_add, Int.toNat_natCast]
  rw [hdr, skip_q]
  show lexGo (qls ra ++ (qls rb ++ [])) (F + 1) (qls ra).length _ = _
  rw [lexGo_step _ _ _ _ hpos2, ht2]
  simp only [if_true, Int.toNat_natCast]
  rw [lexGo_end _ _ _ _ (by simp), ← a2, ← b2]
  rfl
theorem valid_enc (r : Nat) (hv : okR r) (m : List UInt8) : Lib.validD (Lib.encodeRune (r : Int) ++ m) = Lib.validD m := by
  have hd := dec_r r hv m
  rw [Lib.validD_step _ (encR_ne r hv m), hd]
  simp only
  rw [if_neg, List.drop_left]
  rintro ⟨h1, h2⟩
  subst h1
  rw [enc_65533] at h2
  simp at h2
/-- A letter that is a rune. -/
def okZ (x : Int) : Prop := ∃ r : Nat, x = r ∧ okR r
theorem okZ_rune {n : Int} (h0 : 0 ≤ n) (h : isRuneP n = true) : okZ n := by
  refine ⟨n.toNat, by omega, ?_⟩
  unfold isRuneP at h
  unfold okR
  simp at h
  omega
theorem escL_ok {l : List Let} {p : Int × Nat} (h : escL l = some p) : okZ p.1 := by
  cases l with
  | nil => cases h
  | cons c l =>
    simp only [escL] at h
    split at h
    · cases hh : hexEsc l with
      | none => rw [hh] at h; cases h
      | some q =>
        rw [hh] at h
        simp only [Option.map_some, Option.some.injEq] at h
        subst h
        simp only
        cases l with
        | nil => cases hh
        | cons d l =>
          simp only [hexEsc] at hh
          split at hh
          · cases hh
          split at hh
          · cases hh
          · split at hh
            · cases hh
            · rename_i hn
              simp only [Option.some.injEq] at hh
              subst hh
              refine okZ_rune (hexGo_pos 6 0 l (by omega)) ?_
              cases hr : isRuneP (hexGo 6 0 l).1 with
              | true => rfl
              | false => exact absurd (.inr (.inr hr)) hn
    split at h
    · simp only [Option.some.injEq] at h; subst h; exact ⟨34, rfl, .inl (by decide)⟩
    split at h
    · simp only [Option.some.injEq] at h; subst h; exact ⟨92, rfl, .inl (by decide)⟩
    split at h
    · simp only [Option.some.injEq] at h; subst h; exact ⟨10, rfl, .inl (by decide)⟩
    split at h
    · simp only [Option.some.injEq] at h; subst h; exact ⟨9, rfl, .inl (by decide)⟩
    · cases h
theorem textL_valid : ∀ (f : Nat) (L : List Let) (p : Bool × List UInt8 × Nat), (∀ x ∈ L, okZ x.1) → textL f L = some p → Lib.validD p.2.1 = true
  | 0, L, p, _, h => by cases h
  | f + 1, [], p, _, h => by cases h
  | f + 1, x :: l, p, hx, h => by
    simp only [textL] at h
    split at h
    · simp only [Option.some.injEq] at h; subst h; rfl
    split at h
    · split at h
      · cases h
      · rename_i q hq
        cases ht : textL f (l.drop q.2) with
        | none => rw [ht] at h; cases h
        | some y =>
          rw [ht] at h
          simp only [Option.map_some, Option.some.injEq] at h
          subst h
          obtain ⟨r, hr, hv⟩ := escL_ok hq
          simp only
          rw [hr, valid_enc r hv]
          exact textL_valid f _ y (fun z hz => hx z (List.mem_cons_of_mem _ (List.mem_of_mem_drop hz))) ht
    · cases ht : textL f l with
      | none => rw [ht] at h; cases h
      | some y =>
        rw [ht] at h
        simp only [Option.map_some, Option.some.injEq] at h
        subst h
        obtain ⟨r, hr, hv⟩ := hx x (by simp)
        simp only
        rw [hr, valid_enc r hv]
        exact textL_valid f _ y (fun z hz => hx z (List.mem_cons_of_mem _ hz)) ht
theorem letL_ok : ∀ (n : Nat) (l : List UInt8), ∀ x ∈ letL n l, okZ x.1
  | 0, l, x, h => by simp [letL] at h
  | n + 1, l, x, h => by
    unfold letL at h
    split at h
    · simp at h
    · rcases List.mem_cons.1 h with rfl | h
      · exact ⟨_, rfl, okR_of l⟩
      · exact letL_ok n _ x h
theorem lexGo_begins (ls : List Let) : ∀ (f p : Nat) (acc ts : List Tok) (q : Int), lexGo ls f p acc = (ts, 0, q) → ∃ more, ts = acc ++ more
  | 0, p, acc, ts, q, h => by
    simp only [lexGo, Prod.mk.injEq] at h
    exact ⟨[], by rw [← h.1]; simp⟩
  | f + 1, p, acc, ts, q, h => by
    by_cases hp : p < ls.length
    · rw [lexGo_step _ _ _ _ hp] at h
      by_cases he : (tokAns ls p).err = 0
      · rw [if_pos he] at h
        obtain ⟨more, hm⟩ := lexGo_begins ls f _ _ ts q h
        exact ⟨[(tokAns ls p).tok] ++ more, by rw [hm, List.append_assoc]⟩
      · rw [if_neg he] at h
        simp only [Prod.mk.injEq] at h
        exact absurd h.2.1 he
    · rw [lexGo_end _ _ _ _ hp] at h
      simp only [Prod.mk.injEq] at h
      exact ⟨[], by rw [← h.1]; simp⟩
/-- A text that is shown is right. -/
theorem show_right (l : List UInt8) (h : (showP ⟨5, l, 0, 0⟩).2 = 0) : Lib.validD l = true ∧ l.length ≤ 256 := by
  rcases show_cases ⟨5, l, 0, 0⟩ with ⟨h1, _⟩ | ⟨_, h2, h3, h4⟩
  · exact absurd h h1
  refine ⟨?_, h4⟩
  rw [h3] at h2
  obtain ⟨p, pl, hp⟩ := reads_of h2
  have hw : writeP ⟨5, l, 0, 0⟩ = 34 :: (quoteL (lets l) ++ [34]) := by simp [writeP, quoteP]
  rw [hw] at hp
  unfold lexP at hp
  by_cases hl : 2048 < (34 :: (quoteL (lets l) ++ [34])).length
  · rw [if_pos hl] at hp
    simp at hp
  rw [if_neg hl, lets_ascii 34 (by decide)] at hp
  have hall := letL_ok (quoteL (lets l) ++ [34]).length (quoteL (lets l) ++ [34])
  have hall2 : ∀ x ∈ lets (quoteL (lets l) ++ [34]), okZ x.1 := hall
  generalize lets (quoteL (lets l) ++ [34]) = L at hp hall2
  have hs : skipL false (((((34 : UInt8).toNat : Int)), false) :: L) = 0 := by simp [skipL, isBl]
  rw [hs, lexGo_step _ _ _ _ (by simp)] at hp
  by_cases he : (tokAns (((((34 : UInt8).toNat : Int)), false) :: L) 0).err = 0
  · rw [if_pos he] at hp
    obtain ⟨more, hm⟩ := lexGo_begins _ _ _ _ _ _ hp
    simp only [List.nil_append, List.cons_append, List.cons.injEq] at hm
    have hm1 := hm.1
    have hta : tokAns (((((34 : UInt8).toNat : Int)), false) :: L) 0 = textAns (((((34 : UInt8).toNat : Int)), false) :: L) 0 := rfl
    rw [hta] at hm1 he
    unfold textAns at hm1 he
    cases ht : textL ((((((34 : UInt8).toNat : Int)), false) :: L : List Let).length + 1) ((((((34 : UInt8).toNat : Int)), false) :: L : List Let).drop (0 + 1)) with
    | none => rw [ht] at he; simp at he
    | some y =>
      rw [ht] at hm1 he
      simp only at hm1 he
      have hy := textL_valid _ _ y (by intro x hx; exact hall2 x (by simpa using hx)) ht
      split at hm1
      · rw [if_pos (by assumption)] at he; simp at he
      · split at hm1
        · rename_i a b
          rw [if_neg a, if_pos b] at he; simp at he
        · simp only [Tok.mk.injEq] at hm1
          rw [hm1.2.1]
          exact hy
  · rw [if_neg he] at hp
    simp at hp
/-- A right text is shown. -/
theorem right_show (l : List UInt8) (hv : Lib.validD l = true) (hl : l.length ≤ 256) : showP ⟨5, l, 0, 0⟩ = (quoteP l, 0) := by
  have hw : writeP ⟨5, l, 0, 0⟩ = quoteP l := by simp [writeP]
  unfold showP
  rw [if_neg (show ¬ 256 < l.length by omega), hw]
  rw [if_pos]
  unfold readsP
  rw [lex_one l hv hl]
  simp [sameTok]
/-- Right texts that are shown alike are one. -/
theorem quote_inj (a b : List UInt8) (ha : Lib.validD a = true) (hb : Lib.validD b = true) (la : a.length ≤ 256) (lb : b.length ≤ 256) (h : quoteP a = quoteP b) : a = b := by
  have h1 := lex_one a ha la
  have h2 := lex_one b hb lb
  rw [h, h2] at h1
  simp at h1
  exact h1.symm
end Go.Proofs.YtnmmojhbcnlboaaGreatDoor
/- Tokens that are shown, with what parts them behind each: they are read as they were, but for their places. No walk stands in this text. -/
namespace Go.Proofs.YtnmmojhbcnlboaaGreatDoor
open Go.RowKit Go.Lib
set_option linter.unusedVariables false
set_option linter.unusedSimpArgs false

/-- Nothing, or what ends a word. -/
def Ends (L : List Let) : Prop := L = [] ∨ ∃ y r, L = y :: r ∧ isEnd y.1 = true
/-- Letters that are read as a token wherever they stand. -/
def Solid (A : List Let) (t : Tok) : Prop :=
  (∀ L, skipL false (A ++ L) = 0) ∧ A ≠ [] ∧ ∀ (ls : List Let) (p : Nat) (L : List Let), Ends L → ls.drop p = A ++ L → tokAns ls p = ⟨{ t with a := (p : Int) }, ((p + A.length : Nat) : Int), 0⟩
theorem lets_encs : ∀ (rs : List Nat) (m : List UInt8), (∀ r ∈ rs, okR r) → lets ((rs.flatMap fun (r : Nat) => Lib.encodeRune (r : Int)) ++ m) = rs.map (fun (r : Nat) => ((r : Int), false)) ++ lets m
  | [], m, _ => rfl
  | r :: rs, m, h => by
    rw [List.flatMap_cons, List.append_assoc, lets_enc r (h r (by simp)), lets_encs rs m fun x hx => h x (by simp [hx])]
    rfl
theorem lets_app (s m : List UInt8) (hv : Lib.validD s = true) : lets (s ++ m) = lets s ++ lets m := by
  obtain ⟨rs, h1, h2, h3⟩ := valid_runes _ s (Nat.le_refl _) hv
  rw [h3]
  rw [h2]
  exact lets_encs rs m h1
theorem valid_encs : ∀ rs : List Nat, (∀ r ∈ rs, okR r) → Lib.validD (rs.flatMap fun (r : Nat) => Lib.encodeRune (r : Int)) = true
  | [], _ => rfl
  | r :: rs, h => by
    rw [List.flatMap_cons, valid_enc r (h r (by simp))]
    exact valid_encs rs fun x hx => h x (by simp [hx])
/-- Letters that are no bad ones are their runes. -/
theorem runes_of : ∀ seg : List Let, (∀ x ∈ seg, okZ x.1) → anyBad seg = false → ∃ rs : List Nat, (∀ r ∈ rs, okR r) ∧ seg = rs.map (fun (r : Nat) => ((r : Int), false))
  | [], _, _ => ⟨[], by simp, rfl⟩
  | x :: seg, h, hb => by
    have hb' : x.2 = false ∧ anyBad seg = false := by
      unfold anyBad at hb ⊢
      simpa using hb
    obtain ⟨rs, h1, h2⟩ := runes_of seg (fun y hy => h y (by simp [hy])) hb'.2
    obtain ⟨r, hr, hv⟩ := h x (by simp)
    refine ⟨r :: rs, ?_, ?_⟩
    · intro y hy
      rcases List.mem_cons.1 hy with rfl | hy
      · exact hv
      · exact h1 y hy
    · rw [h2]
      obtain ⟨x1, x2⟩ := x
      simp only at hr hb'
      rw [hr, hb'.1]
      rfl
theorem enc_map (rs : List Nat) : enc (rs.map (fun (r : Nat) => ((r : Int), false))) = rs.flatMap fun (r : Nat) => Lib.encodeRune (r : Int) := by
  unfold enc
  rw [List.flatMap_map]
theorem wlen_ends : ∀ l : List Let, ∀ x ∈ l.take (wlen l), isEnd x.1 = false
  | [], x, h => by simp at h
  | y :: l, x, h => by
    unfold wlen at h
    by_cases e : isEnd y.1 = true
    · rw [if_pos e] at h; simp at h
    · rw [if_neg e, List.take_succ_cons] at h
      rcases List.mem_cons.1 h with rfl | h
      · simpa using e
      · exact wlen_ends l x h
theorem end_parts {c : Int} (h : isEnd c = false) : isBl c = false ∧ c ≠ 59 ∧ c ≠ 40 ∧ c ≠ 41 ∧ c ≠ 34 := by
  unfold isEnd at h
  simp only [Bool.or_eq_false_iff, beq_eq_false_iff_ne] at h
  exact ⟨h.1.1.1.1, h.1.1.1.2, h.1.1.2, h.1.2, h.2⟩
theorem solid_word (seg : List Let) (hne : seg ≠ []) (he : ∀ x ∈ seg, isEnd x.1 = false) (hb : anyBad seg = false) (hw : wErr (enc seg) = 0) : Solid seg (wTok (enc seg)) := by
  obtain ⟨y, r, rfl⟩ := List.exists_cons_of_ne_nil hne
  have hy := end_parts (he y (by simp))
  refine ⟨fun L => by simp [skipL, hy.1, hy.2.1], hne, fun ls p L hL hd => ?_⟩
  have hwl : wlen ((y :: r) ++ L) = (y :: r).length := wlen_app _ _ he hL
  unfold tokAns
  rw [hd]
  simp only [List.cons_append]
  rw [if_neg hy.2.2.1, if_neg hy.2.2.2.1, if_neg hy.2.2.2.2]
  unfold wordAns
  simp only
  rw [hd, hwl, List.take_left, hb, if_neg (by simp), if_pos hw]
theorem wTok_a (l : List UInt8) (a : Int) (t : Tok) (h : { wTok l with a := a } = t) : wTok l = { t with a := (wTok l).a } := by
  rw [← h]
theorem lexP_first (l : List UInt8) (x : Tok) (q : Int) (h : lexP l = ([x], 0, q)) : ∃ p : Nat, p < (lets l).length ∧ (tokAns (lets l) p).err = 0 ∧ (tokAns (lets l) p).tok = x := by
  unfold lexP at h
  by_cases hl : 2048 < l.length
  · rw [if_pos hl] at h; simp at h
  rw [if_neg hl] at h
  by_cases hp : skipL false (lets l) < (lets l).length
  · rw [lexGo_step _ _ _ _ hp] at h
    by_cases he : (tokAns (lets l) (skipL false (lets l))).err = 0
    · rw [if_pos he] at h
      obtain ⟨more, hm⟩ := lexGo_begins _ _ _ _ _ _ h
      simp only [List.nil_append, List.cons_append, List.cons.injEq] at hm
      exact ⟨_, hp, he, hm.1.symm⟩
    · rw [if_neg he] at h; simp at h
  · rw [lexGo_end _ _ _ _ hp] at h
    simp at h
theorem valid_asciis : ∀ (bs : List UInt8) (m : List UInt8), (∀ b ∈ bs, b.toNat < 128) → Lib.validD (bs ++ m) = Lib.validD m
  | [], m, _ => rfl
  | b :: bs, m, h => by
    rw [List.cons_append, Lib.validD_cons b _ (h b (by simp)), valid_asciis bs m fun x hx => h x (by simp [hx])]
theorem valid_q (r : Nat) (hv : okR r) (m : List UInt8) : Lib.validD (qR (r : Int) ++ m) = Lib.validD m := by
  unfold qR
  by_cases h1 : r = 34 ∨ r = 92
  · rw [if_pos (by omega), List.cons_append, Lib.validD_cons 92 _ (by decide), valid_enc r hv]
  rw [if_neg (by omega)]
  by_cases h2 : r < 32 ∨ r = 127
  · rw [if_pos (by omega), Int.toNat_natCast, valid_asciis]
    intro b hb
    have := hexS_ascii r (by omega)
    simp only [List.mem_append, List.mem_cons, List.not_mem_nil, or_false] at hb
    rcases hb with (h | h) | h
    · rcases h with rfl | rfl | rfl <;> decide
    · exact this b h
    · subst h; decide
  · rw [if_neg (by omega), valid_enc r hv]
theorem valid_qs : ∀ (rs : List Nat) (m : List UInt8), (∀ r ∈ rs, okR r) → Lib.validD ((rs.flatMap fun (r : Nat) => qR (r : Int)) ++ m) = Lib.validD m
  | [], m, _ => rfl
  | r :: rs, m, h => by
    rw [List.flatMap_cons, List.append_assoc, valid_q r (h r (by simp)), valid_qs rs m fun x hx => h x (by simp [hx])]
/-- A token that is shown is solid. -/
theorem solid_of (t : Tok) (h : readsP (writeP t) t = true) (hn0 : -9223372036854775808 ≤ t.n) (hn1 : t.n ≤ 9223372036854775807) (hl : t.t.length ≤ 256) : Lib.validD (writeP t) = true ∧ Solid (lets (writeP t)) t := by
  obtain ⟨p, pl, hp⟩ := reads_of h
  obtain ⟨k, tt, n, a⟩ := t
  simp only at hn0 hn1 hl hp
  by_cases k1 : k = 1
  · subst k1
    have hw : writeP ⟨1, tt, n, a⟩ = [40] := by simp [writeP]
    rw [hw] at hp ⊢
    have h0 : lexP [40] = ([⟨1, [], 0, 0⟩], 0, 0) := by kernel_rfl
    rw [h0] at hp
    simp only [Prod.mk.injEq, List.cons.injEq, Tok.mk.injEq, and_true, true_and] at hp
    obtain ⟨⟨rfl, rfl, _⟩, _⟩ := hp
    have hl0 : lets [40] = [(40, false)] := by decide +kernel
    rw [hl0]
    refine ⟨by decide +kernel, fun L => by simp [skipL, isBl], by simp, fun ls q L hL hd => ?_⟩
    unfold tokAns
    rw [hd]
    simp
  by_cases k2 : k = 2
  · subst k2
    have hw : writeP ⟨2, tt, n, a⟩ = [41] := by simp [writeP]
    rw [hw] at hp ⊢
    have h0 : lexP [41] = ([⟨2, [], 0, 0⟩], 0, 0) := by kernel_rfl
    rw [h0] at hp
    simp only [Prod.mk.injEq, List.cons.injEq, Tok.mk.injEq, and_true, true_and] at hp
    obtain ⟨⟨rfl, rfl, _⟩, _⟩ := hp
    have hl0 : lets [41] = [(41, false)] := by decide +kernel
    rw [hl0]
    refine ⟨by decide +kernel, fun L => by simp [skipL, isBl], by simp, fun ls q L hL hd => ?_⟩
    unfold tokAns
    rw [hd]
    simp
  by_cases k3 : k = 3
  · subst k3
    have hw : writeP ⟨3, tt, n, a⟩ = tt := by simp [writeP]
    rw [hw] at hp ⊢
    obtain ⟨q, hq, he, hx⟩ := lexP_first _ _ _ hp
    have hall : ∀ x ∈ lets tt, okZ x.1 := letL_ok tt.length tt
    unfold tokAns at he hx
    rw [drop_at _ q hq] at he hx
    simp only at he hx
    by_cases c1 : (lets tt)[q].1 = 40
    · rw [if_pos c1] at hx; simp at hx
    rw [if_neg c1] at he hx
    by_cases c2 : (lets tt)[q].1 = 41
    · rw [if_pos c2] at hx; simp at hx
    rw [if_neg c2] at he hx
    by_cases c3 : (lets tt)[q].1 = 34
    · rw [if_pos c3] at he hx
      unfold textAns at he hx
      cases ht : textL ((lets tt).length + 1) ((lets tt).drop (q + 1)) with
      | none => rw [ht] at he; simp at he
      | some y =>
        rw [ht] at he hx
        simp only at he hx
        split at hx
        · simp [noTok] at hx
        · split at hx
          · simp [noTok] at hx
          · simp at hx
    rw [if_neg c3] at he hx
    obtain ⟨seg, hseg⟩ : ∃ s, ((lets tt).drop q).take (wlen ((lets tt).drop q)) = s := ⟨_, rfl⟩
    have hends : ∀ x ∈ seg, isEnd x.1 = false := by rw [← hseg]; exact wlen_ends _
    have hok : ∀ x ∈ seg, okZ x.1 := by
      intro x hx
      rw [← hseg] at hx
      exact hall x (List.mem_of_mem_drop (List.mem_of_mem_take hx))
    unfold wordAns at he hx
    simp only at he hx
    rw [hseg] at he hx
    by_cases hb : anyBad seg = true
    · rw [hb] at hx; simp [noTok] at hx
    rw [if_neg hb] at he hx
    by_cases hwe : wErr (enc seg) = 0
    · rw [if_pos hwe] at hx
      simp only at hx
      have hbf : anyBad seg = false := by simpa using hb
      have hwt : wTok (enc seg) = ⟨3, enc seg, 0, 0⟩ := by
        unfold wTok at hx ⊢
        by_cases hn : begNum (enc seg) = true
        · rw [hn] at hx
          simp only [if_true] at hx
          unfold numTok at hx
          split at hx
          · simp at hx
          · simp [noTok] at hx
        · rw [if_neg hn] at hx ⊢
          by_cases h64 : 64 < (enc seg).length
          · rw [if_pos h64] at hx; simp [noTok] at hx
          · rw [if_neg h64]
      rw [hwt] at hx
      simp only [Tok.mk.injEq, true_and] at hx
      obtain ⟨htt, hn, _⟩ := hx
      obtain ⟨rs, r1, r2⟩ := runes_of seg hok hbf
      have hls : lets tt = seg := by
        rw [← htt, r2, enc_map]
        have := lets_encs rs [] r1
        simpa [lets_nil] using this
      have hne : seg ≠ [] := by
        intro e
        rw [hls, e] at hq
        simp at hq
      refine ⟨?_, ?_⟩
      · rw [← htt, r2, enc_map]
        exact valid_encs rs r1
      · rw [hls]
        have hs := solid_word seg hne hends hbf hwe
        rw [hwt, htt] at hs
        subst hn
        exact hs
    · rw [if_neg hwe] at hx; simp [noTok] at hx
  by_cases k4 : k = 4
  · subst k4
    have hw : writeP ⟨4, tt, n, a⟩ = itoa n := by simp [writeP]
    rw [hw] at hp ⊢
    rw [lex_num n hn0 hn1] at hp
    simp only [Prod.mk.injEq, List.cons.injEq, Tok.mk.injEq, and_true, true_and] at hp
    obtain ⟨⟨rfl, _⟩, _⟩ := hp
    have hasc : ∀ c ∈ itoa n, c.toNat < 128 := fun c hc => numB_asc (itoa_num n c hc)
    have hl0 := lets_asc' (itoa n) hasc
    refine ⟨?_, ?_⟩
    · have := Lib.validD_ascii (itoa n).length (itoa n) (by intro b hb; exact hasc b (List.mem_of_mem_take hb))
      rw [this]
      simp [Lib.validD_nil]
    · rw [hl0]
      refine ⟨fun L => skip_num n L, ?_, fun ls q L hL hd => ?_⟩
      · intro e
        have := itoa_ne n
        apply this
        have h2 := congrArg enc e
        rw [enc_asc _ hasc] at h2
        exact h2
      · have := tok_num ls q n L hn0 hn1 hd hL
        rw [this]
        simp [ascL]
  by_cases k5 : k = 5
  · subst k5
    have hw : writeP ⟨5, tt, n, a⟩ = quoteP tt := by simp [writeP]
    rw [hw] at hp ⊢
    obtain ⟨hn, hv⟩ : n = 0 ∧ Lib.validD tt = true := by
      obtain ⟨q, hq, he, hx⟩ := lexP_first _ _ _ hp
      have hall : ∀ x ∈ lets (quoteP tt), okZ x.1 := letL_ok _ _
      generalize lets (quoteP tt) = ls at hq he hx hall
      unfold tokAns at he hx
      rw [drop_at _ q hq] at he hx
      simp only at he hx
      by_cases c1 : ls[q].1 = 40
      · rw [if_pos c1] at hx; simp at hx
      rw [if_neg c1] at he hx
      by_cases c2 : ls[q].1 = 41
      · rw [if_pos c2] at hx; simp at hx
      rw [if_neg c2] at he hx
      by_cases c3 : ls[q].1 = 34
      · rw [if_pos c3] at he hx
        unfold textAns at he hx
        cases ht : textL (ls.length + 1) (ls.drop (q + 1)) with
        | none => rw [ht] at he; simp at he
        | some y =>
          rw [ht] at he hx
          simp only at he hx
          have hy := textL_valid _ _ y (fun x hx => hall x (List.mem_of_mem_drop hx)) ht
          split at hx
          · simp [noTok] at hx
          · split at hx
            · simp [noTok] at hx
            · simp only [Tok.mk.injEq, true_and] at hx
              exact ⟨hx.2.1.symm, by rw [← hx.1]; exact hy⟩
      · exfalso
        rw [if_neg c3] at hx
        unfold wordAns at hx
        simp only at hx
        split at hx
        · simp [noTok] at hx
        · split at hx
          · simp only [wTok] at hx
            split at hx
            · unfold numTok at hx
              split at hx
              · simp at hx
              · simp [noTok] at hx
            · split at hx
              · simp [noTok] at hx
              · simp at hx
          · simp [noTok] at hx
    subst hn
    obtain ⟨rs, h1, h2, h3⟩ := valid_runes _ tt (Nat.le_refl _) hv
    have hls : lets (quoteP tt) = qls rs := by
      have := lets_quote tt rs h1 h3 []
      simpa [lets_nil] using this
    refine ⟨?_, ?_⟩
    · have hq : quoteL (lets tt) = rs.flatMap fun (r : Nat) => qR (r : Int) := by
        rw [h3]
        unfold quoteL
        rw [List.flatMap_map]
      unfold quoteP
      rw [hq]
      show Lib.validD (34 :: ((rs.flatMap fun (r : Nat) => qR (r : Int)) ++ [34])) = true
      rw [Lib.validD_cons 34 _ (by decide), valid_qs rs _ h1]
      decide +kernel
    · rw [hls]
      refine ⟨fun L => skip_q rs L, by simp [qls], fun ls q L hL hd => ?_⟩
      have := tok_text ls q rs L hd (by rw [← h2]; exact hl)
      rw [this, ← h2]
  · have hw : writeP ⟨k, tt, n, a⟩ = [] := by simp [writeP, k1, k2, k3, k4, k5]
    rw [hw] at hp
    have h0 : lexP [] = ([], 0, 0) := by kernel_rfl
    rw [h0] at hp
    simp at hp
/-- What parts tokens: its letters, and that they end a word and are passed. -/
def Sep (sep : List UInt8) (sl : List Let) : Prop := (∀ m, lets (sep ++ m) = sl ++ lets m) ∧ (∀ R, skipL false (sl ++ R) = sl.length + skipL false R) ∧ ∀ R, Ends (sl ++ R)
theorem sep0 : Sep [32] [(32, false)] := ⟨fun m => lets_asciis [32] m (by decide), fun R => by simp [skipL, isBl]; omega, fun R => .inr ⟨_, _, rfl, by decide⟩⟩
theorem sep1 : Sep [9, 13, 10] [(9, false), (13, false), (10, false)] := ⟨fun m => lets_asciis [9, 13, 10] m (by decide), fun R => by simp [skipL, isBl]; omega, fun R => .inr ⟨_, _, rfl, by decide⟩⟩
theorem sep2 : Sep [59, 195, 169, 41, 10] [(59, false), (233, false), (41, false), (10, false)] := by
  refine ⟨fun m => ?_, fun R => by simp [skipL, isBl]; omega, fun R => .inr ⟨_, _, rfl, by decide⟩⟩
  have h := lets_encs [59, 233, 41, 10] m (by intro r hr; simp at hr; unfold okR; omega)
  have he : ([59, 233, 41, 10] : List Nat).flatMap (fun (r : Nat) => Lib.encodeRune (r : Int)) = [59, 195, 169, 41, 10] := by decide +kernel
  rw [he] at h
  exact h
theorem sep3 : Sep [32, 59, 32, 34, 10, 32] [(32, false), (59, false), (32, false), (34, false), (10, false), (32, false)] := ⟨fun m => lets_asciis [32, 59, 32, 34, 10, 32] m (by decide), fun R => by simp [skipL, isBl]; omega, fun R => .inr ⟨_, _, rfl, by decide⟩⟩
def zeroA (t : Tok) : Tok := { t with a := 0 }
/-- Tokens shown, with what parts them behind each. -/
def backT (sep : List UInt8) (ts : List Tok) : List UInt8 := ts.flatMap fun t => writeP t ++ sep
theorem backT_app (sep : List UInt8) (ts : List Tok) (t : Tok) : backT sep (ts ++ [t]) = backT sep ts ++ (writeP t ++ sep) := by simp [backT]
theorem lex_back (sep : List UInt8) (sl : List Let) (hs : Sep sep sl) : ∀ (ts : List Tok), (∀ t ∈ ts, Lib.validD (writeP t) = true ∧ Solid (lets (writeP t)) t) →
    skipL false (lets (backT sep ts)) = 0 ∧ ∀ (pre : List Let) (acc : List Tok) (f : Nat), (lets (backT sep ts)).length < f → ∃ R, lexGo (pre ++ lets (backT sep ts)) f pre.length acc = (acc ++ R, 0, 0) ∧ R.map zeroA = ts.map zeroA
  | [], _ => by
    refine ⟨rfl, fun pre acc f hf => ⟨[], ?_, rfl⟩⟩
    rw [lexGo_end _ _ _ _ (by simp [backT, lets_nil])]
    simp
  | t :: ts, h => by
    obtain ⟨hv, hsk, hne, hso⟩ := h t (by simp)
    obtain ⟨ih1, ih2⟩ := lex_back sep sl hs ts fun x hx => h x (by simp [hx])
    have hl : lets (backT sep (t :: ts)) = lets (writeP t) ++ (sl ++ lets (backT sep ts)) := by
      rw [show backT sep (t :: ts) = writeP t ++ (sep ++ backT sep ts) by simp [backT], lets_app _ _ hv, hs.1]
    rw [hl]
    refine ⟨hsk _, fun pre acc f hf => ?_⟩
    obtain ⟨f, rfl⟩ : ∃ g, f = g + 1 := ⟨f - 1, by omega⟩
    have hpos : 0 < (lets (writeP t)).length := List.length_pos_iff.2 hne
    have hd : (pre ++ (lets (writeP t) ++ (sl ++ lets (backT sep ts)))).drop pre.length = lets (writeP t) ++ (sl ++ lets (backT sep ts)) := List.drop_left
    have htk := hso _ _ _ (hs.2.2 _) hd
    rw [lexGo_step _ _ _ _ (by simp; omega), htk]
    simp only [if_true, Int.toNat_natCast]
    have hd2 : (pre ++ (lets (writeP t) ++ (sl ++ lets (backT sep ts)))).drop (pre.length + (lets (writeP t)).length) = sl ++ lets (backT sep ts) := by
      rw [← List.drop_drop, hd]
      exact List.drop_left
    rw [hd2, hs.2.1, ih1, Nat.add_zero]
    obtain ⟨R, hR, hRz⟩ := ih2 (pre ++ (lets (writeP t) ++ sl)) (acc ++ [{ t with a := (pre.length : Int) }]) f (by simp only [List.length_append] at hf ⊢; omega)
    refine ⟨{ t with a := (pre.length : Int) } :: R, ?_, ?_⟩
    · have e1 : pre ++ (lets (writeP t) ++ sl) ++ lets (backT sep ts) = pre ++ (lets (writeP t) ++ (sl ++ lets (backT sep ts))) := by simp
      have e2 : (pre ++ (lets (writeP t) ++ sl)).length = pre.length + (lets (writeP t)).length + sl.length := by simp; omega
      rw [e1, e2] at hR
      rw [hR]
      simp
    · simp only [List.map_cons, hRz]
      rfl
/-- Tokens that are shown, with what parts them behind each, are read as they were, but for their places. -/
theorem lexP_back (sep : List UInt8) (sl : List Let) (hs : Sep sep sl) (ts : List Tok) (h : ∀ t ∈ ts, Lib.validD (writeP t) = true ∧ Solid (lets (writeP t)) t) (hl : (backT sep ts).length ≤ 2048) :
    ∃ R, lexP (backT sep ts) = (R, 0, 0) ∧ R.map zeroA = ts.map zeroA := by
  obtain ⟨h1, h2⟩ := lex_back sep sl hs ts h
  obtain ⟨R, hR, hz⟩ := h2 [] [] ((lets (backT sep ts)).length + 1) (by omega)
  refine ⟨R, ?_, hz⟩
  unfold lexP
  rw [if_neg (by omega), h1]
  simpa using hR
end Go.Proofs.YtnmmojhbcnlboaaGreatDoor
