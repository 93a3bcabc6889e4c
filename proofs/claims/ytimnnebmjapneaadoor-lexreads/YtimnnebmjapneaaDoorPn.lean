/- A note ahead of a text: its letters, its tokens. No walk stands in this text. -/
import Derived.Test.YtimnnebmjapneaaDoorPp
import Derived.Lib.MapLaws
namespace Go.Proofs.YtimnnebmjapneaaDoor
open Go.RowKit Go.Lib Go.Sort
set_option linter.unusedVariables false
set_option linter.unusedSimpArgs false

def okR (r : Nat) : Prop := r < 55296 ∨ (57344 ≤ r ∧ r ≤ 1114111)
theorem okR_of (l : List UInt8) : okR (decodeL l).1 := by
  rw [decodeL_N]
  unfold okR
  rcases decodeN_shape l.length (l.getD 0 0).toNat (l.getD 1 0).toNat (l.getD 2 0).toNat (l.getD 3 0).toNat with ⟨h, e⟩ | ⟨h0, h1, h2, h3, e⟩ | ⟨h0, h1, h2, h3, h4, h5, e⟩ | ⟨h0, h1, h2, h3, h4, h5, h6, e⟩ | e
  all_goals rw [e]; simp only; omega
theorem dec2 (n r b2 b3 : Nat) (h : 1 < n) (h1 : 128 ≤ r) (h2 : r < 2048) : decodeN n (192 + r / 64) (128 + r % 64) b2 b3 = (r, 2) := by
  unfold decodeN
  rw [if_neg (by omega), if_pos (by omega), if_pos (by omega)]
  exact Prod.ext (by simp only; omega) rfl
theorem dec3 (n r b3 : Nat) (h : 2 < n) (h1 : 2048 ≤ r) (h2 : r < 65536) (h3 : okR r) : decodeN n (224 + r / 4096) (128 + r / 64 % 64) (128 + r % 64) b3 = (r, 3) := by
  unfold okR at h3
  unfold decodeN
  rw [if_neg (by omega), if_neg (by omega), if_pos (by omega), if_pos (by omega)]
  exact Prod.ext (by simp only; omega) rfl
theorem dec4 (n r : Nat) (h : 3 < n) (h1 : 65536 ≤ r) (h2 : r ≤ 1114111) : decodeN n (240 + r / 262144) (128 + r / 4096 % 64) (128 + r / 64 % 64) (128 + r % 64) = (r, 4) := by
  unfold decodeN
  rw [if_neg (by omega), if_neg (by omega), if_neg (by omega), if_pos (by omega), if_pos (by omega)]
  exact Prod.ext (by simp only; omega) rfl
theorem dec_enc (r : Nat) (hv : okR r) (m : List UInt8) : decodeL ((Utf8.encode r).data.toList ++ m) = (r, (Utf8.encode r).data.toList.length) := by
  have v : Utf8.valid (r : Int) = true := by unfold okR at hv; simp [Utf8.valid]; omega
  have tn : ∀ k, k < 256 → (UInt8.ofNat k).toNat = k := fun k h => by simp; omega
  rw [decodeL_N]
  by_cases c1 : r < 128
  · simp only [Utf8.encode, v, if_true, Int.toNat_natCast, c1]
    simp only [List.getD, List.cons_append, List.nil_append, List.getElem?_cons_zero, Option.getD_some]
    rw [tn r (by omega)]
    exact decodeN_ascii _ _ _ _ _ c1
  by_cases c2 : r < 2048
  · simp only [Utf8.encode, v, if_true, Int.toNat_natCast, c1, c2, if_false]
    simp only [List.getD, List.cons_append, List.nil_append, List.getElem?_cons_zero, List.getElem?_cons_succ, Option.getD_some]
    rw [tn _ (by omega), tn _ (by omega)]
    exact dec2 _ r _ _ (by simp) (by omega) c2
  by_cases c3 : r < 65536
  · simp only [Utf8.encode, v, if_true, Int.toNat_natCast, c1, c2, c3, if_false]
    simp only [List.getD, List.cons_append, List.nil_append, List.getElem?_cons_zero, List.getElem?_cons_succ, Option.getD_some]
    rw [tn _ (by omega), tn _ (by omega), tn _ (by omega)]
    exact dec3 _ r _ (by simp) (by omega) c3 hv
  · unfold okR at hv
    simp only [Utf8.encode, v, if_true, Int.toNat_natCast, c1, c2, c3, if_false]
    simp only [List.getD, List.cons_append, List.nil_append, List.getElem?_cons_zero, List.getElem?_cons_succ, Option.getD_some]
    rw [tn _ (by omega), tn _ (by omega), tn _ (by omega), tn _ (by omega)]
    exact dec4 _ r (by simp) (by omega) (by omega)
def nls (rs : List Nat) : List Let := rs.map fun (r : Nat) => (((r : Nat) : Int), false)
/-- What stands ahead: its letters are these, whatever stands behind. -/
def Front (F : List UInt8) (rs : List Nat) : Prop := (∀ r ∈ rs, r ≠ 10) ∧ ∀ m, lets (F ++ m) = (59, false) :: nls rs ++ lets m
theorem front_one : Front [59] [] := by
  refine ⟨fun r h => (by cases h), fun m => ?_⟩
  have hd : decodeL (59 :: m) = (59, 1) := by rw [decodeL_N]; simp [decodeN]
  have hb : badL (59 :: m) = false := by simp [badL, hd]
  show lets (59 :: m) = _
  rw [lets_cons _ (by simp), hd, hb]
  rfl
theorem front_step (F : List UInt8) (rs : List Nat) (r : Nat) (h : Front F rs) (hv : okR r) (h10 : r ≠ 10) (hb : r ≠ 65533) : Front (F ++ (Utf8.encode r).data.toList) (rs ++ [r]) := by
  refine ⟨fun x hx => ?_, fun m => ?_⟩
  · rcases List.mem_append.1 hx with h1 | h1
    · exact h.1 x h1
    · rw [List.mem_singleton.1 h1]; exact h10
  · have hd := dec_enc r hv m
    have hne : (Utf8.encode r).data.toList ++ m ≠ [] := by
      intro e
      have hw := Lib.decodeL_width ((Utf8.encode r).data.toList ++ m)
      rw [hd] at hw
      have := congrArg List.length e
      rw [List.length_append] at this
      simp only [List.length_nil] at this
      simp only at hw
      omega
    have hbd : badL ((Utf8.encode r).data.toList ++ m) = false := by
      unfold badL
      rw [hd]
      simp only [decide_eq_false hb, Bool.false_and]
    rw [List.append_assoc, h.2, lets_cons _ hne, hd, hbd, List.drop_left]
    simp [nls]
theorem skip_rem : ∀ (rs : List Nat) (ls : List Let), (∀ r ∈ rs, r ≠ 10) → skipL true (nls rs ++ (10, false) :: ls) = rs.length + 1 + skipL false ls
  | [], ls, _ => by simp [nls, skipL]; omega
  | r :: rs, ls, h => by
    have h1 : r ≠ 10 := h r (by simp)
    have h2 : ((r : Int)) ≠ 10 := by omega
    have ih := skip_rem rs ls fun x hx => h x (by simp [hx])
    unfold nls at ih ⊢
    simp only [List.map_cons, List.cons_append, skipL, h2, if_false, List.length_cons]
    rw [ih]
    omega
/-- A note ahead of a text changes no token but its place. -/
theorem lex_notes (F l : List UInt8) (rs : List Nat) (h : Front F rs) (hl : (F ++ [10] ++ l).length ≤ 2048) : lexP (F ++ [10] ++ l) = if (lexP l).2.1 = 0 then ((lexP l).1.map (shT (rs.length + 2)), 0, 0) else ([], (lexP l).2.1, (lexP l).2.2 + (rs.length + 2 : Nat)) := by
  have hl2 : ¬ 2048 < l.length := by simp only [List.length_append] at hl; omega
  have h1 : lexP l = lexGo (lets l) ((lets l).length + 1) (skipL false (lets l)) [] := by unfold lexP; rw [if_neg hl2]
  have h2 : lexP (F ++ [10] ++ l) = lexGo (lets (F ++ [10] ++ l)) ((lets (F ++ [10] ++ l)).length + 1) (skipL false (lets (F ++ [10] ++ l))) [] := by unfold lexP; rw [if_neg (by omega)]
  have h3 : lets (F ++ [10] ++ l) = ((59, false) :: nls rs ++ [(10, false)]) ++ lets l := by
    have hd : decodeL (10 :: l) = (10, 1) := by rw [decodeL_N]; simp [decodeN]
    have hb : badL (10 :: l) = false := by simp [badL, hd]
    rw [List.append_assoc, h.2]
    show _ ++ lets (10 :: l) = _
    rw [lets_cons _ (by simp), hd, hb]
    simp
  rw [h1, h2, h3]
  generalize lets l = ls
  have hsk : skipL false (((59, false) :: nls rs ++ [(10, false)]) ++ ls) = rs.length + 2 + skipL false ls := by
    have := skip_rem rs ls h.1
    simp only [List.cons_append, List.append_assoc, List.nil_append, skipL, isBl]
    simp only [this]
    simp
    omega
  have hpl : ((59, false) :: nls rs ++ [(10, false)] : List Let).length = rs.length + 2 := by simp [nls]
  rw [hsk]
  have hs0 := skipL_le false ls
  have hg0 := good_skip ls 0 (by omega)
  rw [List.drop_zero, Nat.zero_add] at hg0
  have := lexGo_shift ((59, false) :: nls rs ++ [(10, false)]) ls ((((59, false) :: nls rs ++ [(10, false)]) ++ ls).length + 1) (ls.length + 1) (skipL false ls) [] (by rw [List.length_append]; omega) (by omega) hg0 hs0
  rw [hpl, List.map_nil] at this
  exact this
end Go.Proofs.YtimnnebmjapneaaDoor
