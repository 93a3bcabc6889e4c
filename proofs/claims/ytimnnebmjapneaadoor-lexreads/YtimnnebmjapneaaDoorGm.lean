/- What the reference's Show writes is what lex's Show does. No walk stands in this text. -/
import Derived.Test.YtimnnebmjapneaaDoorGl
namespace Go.Proofs.YtimnnebmjapneaaDoor
open Go.RowKit Go.Lib
set_option linter.unusedVariables false
theorem tok_kind (ls : List Let) (p : Nat) (hp : p < ls.length) (h : (tokAns ls p).err = 0) : (1 ≤ (tokAns ls p).tok.k ∧ (tokAns ls p).tok.k ≤ 5) ∧ (tokAns ls p).tok.t.length ≤ 256 := by
  unfold tokAns at h ⊢
  rw [drop_at ls p hp] at h ⊢
  simp only at h ⊢
  split
  · simp
  split
  · simp
  rename_i h40 h41
  rw [if_neg h40, if_neg h41] at h
  split
  · rename_i h34
    rw [if_pos h34] at h
    unfold textAns at h ⊢
    cases ht : textL (ls.length + 1) (ls.drop (p + 1)) with
    | none => rw [ht] at h; simp at h
    | some q =>
      rw [ht] at h
      simp only at h ⊢
      split at h
      · simp at h
      rename_i hb
      split at h
      · simp at h
      rename_i hc
      rw [if_neg hb, if_neg hc]
      refine ⟨⟨by simp, by simp⟩, ?_⟩
      show q.2.1.length ≤ 256
      omega
  · rename_i h34
    rw [if_neg h34] at h
    simp only [wordAns] at h ⊢
    split at h
    · simp at h
    rename_i hb
    split at h
    · rename_i hc
      rw [if_neg hb, if_pos hc]
      generalize enc ((ls.drop p).take (wlen (ls.drop p))) = S at hc ⊢
      unfold wErr at hc
      unfold wTok
      split at hc
      · rename_i h1
        rw [if_pos h1]
        unfold numErr at hc
        unfold numTok
        cases hn : numOf S with
        | none => rw [hn] at hc; simp at hc
        | some v => simp
      · rename_i h1
        rw [if_neg h1]
        split at hc
        · simp at hc
        · rename_i h2
          rw [if_neg h2]
          refine ⟨⟨by simp, by simp⟩, ?_⟩
          show S.length ≤ 256
          omega
    · rename_i hc
      exact absurd h hc
theorem lexP_kind (l : List UInt8) (x : Tok) (q : Int) (h : lexP l = ([x], 0, q)) : (1 ≤ x.k ∧ x.k ≤ 5) ∧ x.t.length ≤ 256 := by
  obtain ⟨p, hp, h1, h2⟩ := lexP_first l x q h
  rw [← h2]
  exact tok_kind _ p hp h1
def refWrite (t : Tok) : List UInt8 := if t.k = 1 then [40] else if t.k = 2 then [41] else if t.k = 4 then Lib.itoa t.n else if t.k = 5 then quoteP t.t else t.t
def refReads (l : List UInt8) (t : Tok) : Bool := if (lexP l).2.1 = 0 then (match (lexP l).1 with
  | [x] => decide (x.k = t.k) && (decide (x.t = t.t) && (decide (x.n = t.n) && decide (x.a = 0)))
  | _ => false) else false
def refShow (t : Tok) : List UInt8 × Int := if refReads (refWrite t) t then (refWrite t, 0) else ([], 13)
theorem refReads_of {l : List UInt8} {t : Tok} (h : refReads l t = true) : ∃ q, lexP l = ([{ t with a := 0 }], 0, q) := by
  unfold refReads at h
  split at h
  · rename_i h0
    split at h
    · rename_i x hx
      simp only [Bool.and_eq_true, decide_eq_true_eq] at h
      obtain ⟨h1, h2, h3, h4⟩ := h
      refine ⟨(lexP l).2.2, ?_⟩
      rw [← h1, ← h2, ← h3]
      have : x = { t with k := x.k, t := x.t, n := x.n, a := 0 } := by
        obtain ⟨a, b, c, d⟩ := x
        simp only at h4
        rw [h4]
      rw [show lexP l = ((lexP l).1, (lexP l).2.1, (lexP l).2.2) from rfl, hx, h0]
      congr 2
    · cases h
  · cases h
theorem refReads_to {l : List UInt8} {t : Tok} {q : Int} (h : lexP l = ([{ t with a := 0 }], 0, q)) : refReads l t = true := by
  unfold refReads
  rw [h]
  simp
theorem reads_to {l : List UInt8} {t : Tok} {a q : Int} (h : lexP l = ([{ t with a := a }], 0, q)) : readsP l t = true := by
  unfold readsP
  rw [h]
  simp [sameTok]
theorem lexP_solid (t : Tok) (hw : (writeP t).length ≤ 2048) (h : Solid (lets (writeP t)) t) : lexP (writeP t) = ([{ t with a := 0 }], 0, 0) := by
  obtain ⟨h1, h2, h3⟩ := h
  have hpos : 0 < (lets (writeP t)).length := List.length_pos_iff.2 h2
  have hs : skipL false (lets (writeP t)) = 0 := by have := h1 []; rwa [List.append_nil] at this
  have ht := h3 (lets (writeP t)) 0 [] (.inl rfl) (by simp)
  unfold lexP
  rw [if_neg (by omega), hs, lexGo_step _ _ _ _ hpos, ht]
  simp only [if_true, Int.toNat_natCast]
  rw [lexGo_end _ _ _ _ (by omega)]
  rfl
theorem refShow_eq (t : Tok) (hn0 : -9223372036854775808 ≤ t.n) (hn1 : t.n ≤ 9223372036854775807) : refShow t = showP t := by
  unfold refShow showP
  by_cases hl : 256 < t.t.length
  · rw [if_pos hl, if_neg]
    intro h
    obtain ⟨q, hq⟩ := refReads_of h
    have := (lexP_kind _ _ _ hq).2
    simp only at this
    omega
  rw [if_neg hl]
  by_cases hk : 1 ≤ t.k ∧ t.k ≤ 5
  · have e : refWrite t = writeP t := by
      unfold refWrite writeP
      have : t.k = 1 ∨ t.k = 2 ∨ t.k = 3 ∨ t.k = 4 ∨ t.k = 5 := by omega
      rcases this with h | h | h | h | h <;> simp [h]
    rw [e]
    by_cases hr : readsP (writeP t) t = true
    · have hso := (solid_of t hr hn0 hn1 (by omega)).2
      have hw := writeP_len t (by omega) hn0 hn1
      rw [if_pos hr, if_pos (refReads_to (lexP_solid t (by omega) hso))]
    · rw [if_neg hr, if_neg]
      intro h
      obtain ⟨q, hq⟩ := refReads_of h
      exact hr (reads_to hq)
  · have hw : writeP t = [] := by
      unfold writeP
      rw [if_neg (by omega), if_neg (by omega), if_neg (by omega), if_neg (by omega), if_neg (by omega)]
    have hr : readsP [] t = false := by
      unfold readsP
      rw [show lexP [] = ([], 0, 0) by rfl]
      rfl
    have hf : ¬ refReads (refWrite t) t = true := fun h => by
      obtain ⟨q, hq⟩ := refReads_of h
      exact hk (lexP_kind _ _ _ hq).1
    rw [hw, hr, if_neg hf, if_neg (by simp)]
end Go.Proofs.YtimnnebmjapneaaDoor
