/- Ports stay what they are, and stay failed; fields that a kind has not. -/
import Derived.Test.YtjpnomkcinfonaaGreatDoorNaNb
namespace Go.Proofs.YtjpnomkcinfonaaGreatDoor
set_option linter.unusedVariables false
set_option linter.unusedSimpArgs false
def St.knd : St → Nat
  | .inl (_, _) => 0
  | .inr (.inl _) => 1
  | .inr (.inr (_, _)) => 2
/-- A step keeps a port's kind, and its fault. -/
def Nice {α : Type} (f : St → α → α × St) : Prop := ∀ st x, (f st x).2.knd = st.knd ∧ (failedP st = true → failedP (f st x).2 = true)
theorem fail_nice (st : St) : (failP st).knd = st.knd ∧ failedP (failP st) = true := by
  cases st using St.three <;> simp [failP, St.knd, failedP]
theorem nice_oct : Nice octP := fun st x => by
  cases st using St.three with
  | wr b f =>
    refine ⟨rfl, fun h => ?_⟩
    simp only [octP, failedP, Bool.or_eq_true, decide_eq_true_eq, List.length_append, List.length_cons, List.length_nil] at h ⊢
    rcases h with h | h
    · exact .inl h
    · right; omega
  | bl f => simp only [octP]; split <;> simp [St.knd, failedP]
  | rd r f => simp only [octP]; split <;> simp [St.knd, failedP]
theorem rn_nice : ∀ k i acc st, (rnF k i acc st).2.knd = st.knd ∧ (failedP st = true → failedP (rnF k i acc st).2 = true)
  | 0, i, acc, st => ⟨(fail_nice st).1, fun _ => (fail_nice st).2⟩
  | k + 1, i, acc, st => by
    have h := nice_oct st 0
    simp only [rnF]
    split
    · have h2 := rn_nice k (i + 1) ((acc + (octP st 0).1 % 128 * 2 ^ (7 * i)) % 18446744073709551616) (octP st 0).2
      exact ⟨h2.1.trans h.1, fun e => h2.2 (h.2 e)⟩
    · split
      · exact ⟨(fail_nice _).1.trans h.1, fun _ => (fail_nice _).2⟩
      · exact h
theorem nice_num : Nice numP := fun st x => by
  cases st using St.three with
  | wr b f =>
    refine ⟨rfl, fun h => ?_⟩
    simp only [numP, failedP, Bool.or_eq_true, decide_eq_true_eq, List.length_append] at h ⊢
    rcases h with h | h
    · exact .inl h
    · right; omega
  | bl f => simp only [numP]; split <;> simp [St.knd, failedP]
  | rd r f => exact rn_nice 10 0 0 (.rd r f)
theorem nice_txt : Nice txtP := fun st x => by
  cases st using St.three with
  | wr b f =>
    simp only [txtP]
    split
    · simp [St.knd, failedP]
    · refine ⟨rfl, fun h => ?_⟩
      simp only [failedP, Bool.or_eq_true, decide_eq_true_eq, List.length_append] at h ⊢
      rcases h with h | h
      · exact .inl h
      · right; omega
  | bl f => simp only [txtP]; split <;> simp [St.knd, failedP]
  | rd r f =>
    have h := rn_nice 10 0 0 (.rd r f)
    obtain ⟨r', f', h2⟩ := rnF_rd 10 0 0 r f
    obtain ⟨⟨n, st'⟩, hr⟩ : ∃ q, rnF 10 0 0 (.rd r f) = q := ⟨_, rfl⟩
    rw [hr] at h2 h
    simp only at h2 h
    subst h2
    simp only [txtP, hr]
    split
    · simp [St.knd, failedP]
    · simp only [takeP]
      split
      · simp [St.knd, failedP]
      · exact ⟨rfl, h.2⟩
theorem nice_long : Nice longP := fun st x => nice_num st (zig x)
theorem if_nice {c : Prop} [Decidable c] {st st0 : St} (h : st.knd = st0.knd ∧ (failedP st0 = true → failedP st = true)) : (if c then failP st else st).knd = st0.knd ∧ (failedP st0 = true → failedP (if c then failP st else st) = true) := by
  split
  · exact ⟨(fail_nice st).1.trans h.1, fun _ => (fail_nice st).2⟩
  · exact h
theorem if_nice2 {c : Prop} [Decidable c] {st st0 : St} (h : st.knd = st0.knd ∧ (failedP st0 = true → failedP st = true)) : (if c then st else failP st).knd = st0.knd ∧ (failedP st0 = true → failedP (if c then st else failP st) = true) := by
  split
  · exact h
  · exact ⟨(fail_nice st).1.trans h.1, fun _ => (fail_nice st).2⟩
theorem nice_flag : Nice flagP := fun st x => if_nice (nice_oct st _)
theorem each_nice {α : Type} {part : St → α → α × St} (h : Nice part) : ∀ l st, (eachP part st l).knd = st.knd ∧ (failedP st = true → failedP (eachP part st l) = true)
  | [], st => ⟨rfl, id⟩
  | x :: xs, st => by
    simp only [eachP]
    split
    · exact ⟨rfl, id⟩
    · have h1 := h st x
      have h2 := each_nice h xs (part st x).2
      exact ⟨h2.1.trans h1.1, fun e => h2.2 (h1.2 e)⟩
theorem taken_nice {α : Type} {part : St → α → α × St} (h : Nice part) (d : α) : ∀ n st acc, (takenP part d n st acc).2.knd = st.knd ∧ (failedP st = true → failedP (takenP part d n st acc).2 = true)
  | 0, st, acc => ⟨rfl, id⟩
  | n + 1, st, acc => by
    simp only [takenP]
    split
    · exact ⟨rfl, id⟩
    · have h1 := h st d
      have h2 := taken_nice h d n (part st d).2 (acc ++ [(part st d).1])
      exact ⟨h2.1.trans h1.1, fun e => h2.2 (h1.2 e)⟩
theorem nice_list {α : Type} {part : St → α → α × St} (most : Nat) (d : α) (h : Nice part) : Nice (listP most part d) := fun st l => by
  have h1 := if_nice (c := most < (numP st l.length).1) (nice_num st l.length)
  simp only [listP]
  generalize (if most < (numP st l.length).1 then failP (numP st l.length).2 else (numP st l.length).2) = st2 at *
  split
  · have h2 := taken_nice h d (numP st l.length).1 st2 []
    exact ⟨h2.1.trans h1.1, fun e => h2.2 (h1.2 e)⟩
  · have h2 := each_nice h l st2
    exact ⟨h2.1.trans h1.1, fun e => h2.2 (h1.2 e)⟩
/-- One behind the other. -/
theorem nice_seq {a b c : St} (h : b.knd = a.knd ∧ (failedP a = true → failedP b = true)) (k : c.knd = b.knd ∧ (failedP b = true → failedP c = true)) : c.knd = a.knd ∧ (failedP a = true → failedP c = true) := ⟨k.1.trans h.1, fun e => k.2 (h.2 e)⟩
theorem nice_val : Nice valP := fun st x => by
  simp only [valP]
  refine if_nice2 ?_
  split
  · exact nice_seq (nice_oct st _) (nice_flag _ _)
  · split
    · exact nice_seq (nice_oct st _) (nice_long _ _)
    · split
      · exact nice_seq (nice_oct st _) (nice_txt _ _)
      · exact nice_oct st _
theorem nice_row : Nice rowP := nice_list _ _ nice_val
theorem nice_rows : Nice rowsP := nice_list _ _ nice_row
theorem nice_stp : Nice stpP := fun st x => nice_seq (nice_seq (nice_oct _ _) (nice_txt _ _)) (nice_long _ _)
theorem nice_stps : Nice stpsP := nice_list _ _ nice_stp
theorem nice_itm : Nice itmP := fun st x => nice_seq (nice_oct _ _) (nice_stps _ _)
theorem nice_ints : Nice intsP := nice_list _ _ nice_long
theorem nice_vrs : Nice vrsP := fun st x => nice_seq (nice_num _ _) (nice_num _ _)
theorem nice_sr : Nice srP := fun st x => nice_seq (nice_seq (nice_seq (nice_seq (nice_oct _ _) (nice_txt _ _)) (nice_vrs _ _)) (nice_long _ _)) (nice_ints _ _)
theorem nice_cl : Nice clP := fun st x => nice_seq (nice_txt _ _) (nice_oct _ _)
theorem nice_cls : Nice clsP := nice_list _ _ nice_cl
theorem nice_tbl : Nice tblP := fun st x => if_nice (nice_seq (nice_txt _ _) (nice_cls _ _))
theorem nice_clm : Nice clmP := fun st x => nice_seq (nice_seq (nice_seq (nice_txt _ _) (nice_cls _ _)) (nice_vrs _ _)) (nice_list 64 [] nice_ints _ _)
theorem nice_fh : Nice fhP := fun st x => nice_seq (nice_seq (nice_seq (nice_txt _ _) (nice_vrs _ _)) (nice_long _ _)) (nice_cls _ _)
theorem nice_frg : Nice frgP := fun st x => nice_seq (nice_seq (nice_seq (nice_seq (nice_seq (nice_seq (nice_long _ _) (nice_long _ _)) (nice_sr _ _)) (nice_sr _ _)) (nice_flag _ _)) (nice_long _ _)) (nice_ints _ _)
theorem nice_bnd : Nice bndP := fun st x => nice_seq (nice_seq (nice_seq (nice_seq (nice_seq (nice_seq (nice_seq (nice_seq (nice_seq (nice_seq (nice_txt _ _) (nice_txt _ _)) (nice_long _ _)) (nice_long _ _)) (nice_long _ _)) (nice_stps _ _)) (nice_ints _ _)) (nice_list 64 itm0 nice_itm _ _)) (nice_flag _ _)) (nice_list 64 s0 nice_txt _ _)) (nice_list 64 0 nice_oct _ _)
theorem fld_nice (i : Nat) : Nice (fldP i) := fun st x => by
  match i with
  | 0 => exact nice_num _ _
  | 1 => exact nice_vrs _ _
  | 2 => exact nice_long _ _
  | 3 => exact nice_long _ _
  | 4 => exact nice_long _ _
  | 5 => exact nice_bnd _ _
  | 6 => exact nice_list 64 tbl0 nice_tbl _ _
  | 7 => exact nice_frg _ _
  | 8 => exact nice_ints _ _
  | 9 => exact nice_num _ _
  | 10 => exact nice_flag _ _
  | 11 => exact nice_rows _ _
  | 12 => exact nice_fh _ _
  | 13 => exact nice_rows _ _
  | 14 => exact nice_list 64 clm0 nice_clm _ _
  | i + 15 => exact ⟨rfl, id⟩
/-- What is asked of a message below: three fields that are whole numbers or lists of such. -/
structure Same3 (x y : Mg) : Prop where
  k : y.k = x.k
  bt : y.bt = x.bt
  sq : y.sq = x.sq
  nd : y.nd = x.nd
theorem Same3.trans {x y z : Mg} (h : Same3 x y) (g : Same3 y z) : Same3 x z := ⟨g.k.trans h.k, g.bt.trans h.bt, g.sq.trans h.sq, g.nd.trans h.nd⟩
theorem num_idle (st : St) (n : Nat) (h : st.knd ≠ 2) : (numP st n).1 = n := by
  cases st using St.three with
  | wr b f => rfl
  | bl f => rfl
  | rd r f => exact absurd rfl h
theorem list_idle {α : Type} (most : Nat) (part : St → α → α × St) (d : α) (st : St) (l : List α) (h : st.knd ≠ 2) : (listP most part d st l).1 = l := by
  have h1 := (if_nice (c := most < (numP st l.length).1) (nice_num st l.length)).1
  simp only [listP]
  generalize (if most < (numP st l.length).1 then failP (numP st l.length).2 else (numP st l.length).2) = st2 at *
  have : st2.reads = false := by
    cases st2 using St.three with
    | wr b f => rfl
    | bl f => rfl
    | rd r f => exact absurd h1.symm h
  rw [this]
  rfl
theorem fld_same (i : Nat) (st : St) (x : Mg) (h : st.knd ≠ 2) : Same3 x (fldP i st x).1 := by
  match i with
  | 0 => exact ⟨rfl, num_idle st _ h, rfl, rfl⟩
  | 8 => exact ⟨rfl, rfl, rfl, list_idle 64 longP 0 st _ h⟩
  | 9 => exact ⟨rfl, rfl, num_idle st _ h, rfl⟩
  | 1 | 2 | 3 | 4 | 5 | 6 | 7 | 10 | 11 | 12 | 13 | 14 => exact ⟨rfl, rfl, rfl, rfl⟩
  | i + 15 => exact ⟨rfl, rfl, rfl, rfl⟩
theorem go_same (b : Bool) : ∀ n i st x, st.knd ≠ 2 → Same3 x (goP b n i st x).1
  | 0, i, st, x, h => ⟨rfl, rfl, rfl, rfl⟩
  | n + 1, i, st, x, h => by
    simp only [goP]
    split
    · exact (fld_same i st x h).trans (go_same b n (i + 1) _ _ (by rw [(fld_nice i st x).1]; exact h))
    · exact go_same b n (i + 1) st x h
theorem go_stick (b : Bool) : ∀ n i st x, failedP st = true → failedP (goP b n i st x).2 = true
  | 0, i, st, x, h => h
  | n + 1, i, st, x, h => by
    simp only [goP]
    split
    · exact go_stick b n (i + 1) _ _ ((fld_nice i st x).2 h)
    · exact go_stick b n (i + 1) st x h
/-- A field that the kind has not, and that is not blank, fails. -/
theorem go_fail (j : Nat) (x0 : Mg) (hf : ∀ st x, st.knd = 1 → Same3 x0 x → failedP (fldP j st x).2 = true) (hc : (ofK.getD j []).contains x0.k = false) : ∀ n i st x, st.knd = 1 → Same3 x0 x → i ≤ j → j < i + n → failedP (goP false n i st x).2 = true
  | 0, i, st, x, _, _, h1, h2 => by omega
  | n + 1, i, st, x, hk, hs, h1, h2 => by
    simp only [goP]
    by_cases e : i = j
    · subst e
      rw [hs.k, hc, if_pos rfl]
      exact go_stick false n (i + 1) _ _ (hf st x hk hs)
    · split
      · exact go_fail j x0 hf hc n (i + 1) _ _ (by rw [(fld_nice i st x).1]; exact hk) (hs.trans (fld_same i st x (by rw [hk]; omega))) (by omega) (by omega)
      · exact go_fail j x0 hf hc n (i + 1) st x hk hs (by omega) (by omega)
theorem wr1_same (x : Mg) : Same3 x (wr1 x).1 := by
  have h1 : ({ x with k := (octP (.wr [] false) x.k).1 } : Mg) = x := rfl
  have h2 : ∀ c : Prop, [Decidable c] → (if c then failP (octP (.wr [] false) x.k).2 else (octP (.wr [] false) x.k).2).knd ≠ 2 := fun c _ => by
    rw [(if_nice (c := c) (nice_oct (.wr [] false) x.k)).1]
    decide
  exact go_same true 15 0 _ x (h2 _)
theorem num_blank (st : St) (n : Nat) (h : st.knd = 1) (hn : n ≠ 0) : failedP (numP st n).2 = true := by
  cases st using St.three with
  | wr b f => cases h
  | bl f => simp only [numP]; rw [if_neg hn]; rfl
  | rd r f => cases h
theorem wrE_fail {x : Mg} (h : failedP (wr2 x).2 = true) : wrE x = 11 := by
  unfold wrE wrOk
  rw [h]
  simp
/-- A Boot, a Seq, Nodes where they have no place. -/
theorem no_boot (x : Mg) (n : Nat) (hn : n ≠ 0) (hk : x.k ≠ 1) : wrE { x with bt := n } = 11 := by
  refine wrE_fail (go_fail 0 _ (fun st y hk hs => ?_) (by show [1].contains x.k = false; simp; omega) 15 0 _ _ rfl (wr1_same _) (by omega) (by omega))
  show failedP (numP st y.bt).2 = true
  rw [hs.bt]
  exact num_blank st n hk hn
theorem no_seq (x : Mg) (n : Nat) (hn : n ≠ 0) (h4 : x.k ≠ 4) (h5 : x.k ≠ 5) : wrE { x with sq := n } = 11 := by
  refine wrE_fail (go_fail 9 _ (fun st y hk hs => ?_) (by show [4, 5].contains x.k = false; simp; omega) 15 0 _ _ rfl (wr1_same _) (by omega) (by omega))
  show failedP (numP st y.sq).2 = true
  rw [hs.sq]
  exact num_blank st n hk hn
theorem no_nodes (x : Mg) (h2 : x.k ≠ 2) : wrE { x with nd := [1] } = 11 := by
  refine wrE_fail (go_fail 8 _ (fun st y hk hs => ?_) (by show [2].contains x.k = false; simp; omega) 15 0 _ _ rfl (wr1_same _) (by omega) (by omega))
  show failedP (intsP st y.nd).2 = true
  rw [hs.nd]
  have h := num_blank st 1 hk (by omega)
  have hi : (numP st 1).1 = 1 := num_idle st 1 (by rw [hk]; omega)
  have hl : ([1] : List Int).length = 1 := rfl
  have hr : (numP st 1).2.reads = false := by
    have := (nice_num st 1).1
    rw [hk] at this
    cases h2 : (numP st 1).2 using St.three with
    | wr b f => rfl
    | bl f => rfl
    | rd r f => rw [h2] at this; cases this
  have e : listP 64 longP 0 st [1] = ([1], (numP st 1).2) := by
    have e0 : (if 64 < (numP st ([1] : List Int).length).1 then failP (numP st ([1] : List Int).length).2 else (numP st ([1] : List Int).length).2) = (numP st 1).2 := by
      rw [hl, hi]
      exact if_neg (by decide)
    unfold listP
    simp only [e0]
    rw [if_neg (by rw [hr]; decide)]
    simp only [eachP, h, if_true]
  show failedP (listP 64 longP 0 st [1]).2 = true
  rw [e]
  exact h
end Go.Proofs.YtjpnomkcinfonaaGreatDoor
