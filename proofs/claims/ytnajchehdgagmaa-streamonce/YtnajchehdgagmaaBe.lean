/- What is received of a stream, however its batches come: the pure half of StreamOnce. -/
import Derived.Test.YtnajchehdgagmaaBc
namespace Go.Proofs.Ytnajchehdgagmaa
open Go
set_option linter.unusedVariables false
set_option linter.unusedSimpArgs false
/-- A batch, as it is held. -/
def batAt (bs : List (List (List Val))) (j : Nat) : Bat := ⟨j, decide (j + 1 = bs.length), bs[j]?.getD []⟩
/-- In order, from lo on. -/
def Srt : Nat → List Bat → Prop
  | _, [] => True
  | lo, b :: h => lo ≤ b.s ∧ Srt (b.s + 1) h
theorem Srt.le {lo lo' : Nat} : ∀ {h : List Bat}, Srt lo h → lo' ≤ lo → Srt lo' h
  | [], _, _ => trivial
  | b :: h, ⟨h1, h2⟩, hl => ⟨Nat.le_trans hl h1, h2⟩
theorem Srt.mem {lo : Nat} : ∀ {h : List Bat}, Srt lo h → ∀ b ∈ h, lo ≤ b.s
  | [], _, b, hb => by cases hb
  | c :: h, ⟨h1, h2⟩, b, hb => by
    rcases List.mem_cons.1 hb with rfl | hb
    · exact h1
    · have := Srt.mem h2 b hb
      omega
theorem held_srt : ∀ (h : List Bat) (n bf : Nat) (pl : Bool), heldP n bf pl h = true → Srt (bf + 1) h ∧ ∀ b ∈ h, b.s < n + 4
  | [], _, _, _, _ => ⟨trivial, fun b hb => by cases hb⟩
  | b :: bs, n, bf, pl, h => by
    unfold heldP at h
    split at h
    · cases h
    · split at h
      · cases h
      · split at h
        · cases h
        · split at h
          · cases h
          · obtain ⟨h1, h2⟩ := held_srt bs n b.s b.l h
            exact ⟨⟨by omega, h1⟩, fun c hc => by
              rcases List.mem_cons.1 hc with rfl | hc
              · omega
              · exact h2 c hc⟩
theorem srt_held (bs : List (List (List Val))) (h8 : ∀ c ∈ bs, c.length ≤ 8) : ∀ (h : List Bat) (n bf : Nat) (pl : Bool), Srt (bf + 1) h → (∀ b ∈ h, b.s < n + 4 ∧ b.s < bs.length ∧ b = batAt bs b.s) → (pl = true → bf + 1 = bs.length) → heldP n bf pl h = true
  | [], _, _, _, _, _, _ => rfl
  | b :: h, n, bf, pl, ⟨h1, h2⟩, hm, hp => by
    obtain ⟨a1, a2, a3⟩ := hm b (List.mem_cons_self ..)
    unfold heldP
    have hr : b.r.length ≤ 8 := by
      rw [a3]
      unfold batAt
      simp only [List.getElem?_eq_getElem a2, Option.getD_some]
      exact h8 _ (List.getElem_mem a2)
    rw [if_neg (by omega), if_neg (by omega), if_neg (by omega), if_neg (fun e => by have := hp e; omega)]
    exact srt_held bs h8 h n b.s b.l h2 (fun c hc => hm c (List.mem_cons_of_mem _ hc)) (fun e => by rw [a3] at e; simpa [batAt] using e)
theorem insB_nil (b : Bat) : insB b [] = [b] := rfl
theorem insB_cons (b c : Bat) (h : List Bat) : insB b (c :: h) = if b.s < c.s then b :: c :: h else c :: insB b h := by
  unfold insB
  rw [List.findIdx_cons]
  by_cases e : b.s < c.s
  · rw [if_pos e, show gtS b.s c = true by simp [gtS, e]]; rfl
  · rw [if_neg e, show gtS b.s c = false by simp [gtS]; omega]; rfl
theorem ins_srt (b : Bat) : ∀ (h : List Bat) (lo : Nat), Srt lo h → lo ≤ b.s → (∀ c ∈ h, c.s ≠ b.s) → Srt lo (insB b h)
  | [], _, _, hl, _ => ⟨hl, trivial⟩
  | c :: h, lo, ⟨h1, h2⟩, hl, hn => by
    have hc := hn c (List.mem_cons_self ..)
    rw [insB_cons]
    split
    · exact ⟨hl, by omega, h2⟩
    · exact ⟨h1, ins_srt b h _ h2 (by omega) (fun d hd => hn d (List.mem_cons_of_mem _ hd))⟩
theorem ins_mem (b : Bat) : ∀ (h : List Bat) (c : Bat), c ∈ insB b h → c = b ∨ c ∈ h
  | [], c, hc => .inl (by simpa [insB_nil] using hc)
  | d :: h, c, hc => by
    rw [insB_cons] at hc
    split at hc
    · simpa using hc
    · rcases List.mem_cons.1 hc with rfl | hc
      · exact .inr (List.mem_cons_self ..)
      · rcases ins_mem b h c hc with rfl | hc
        · exact .inl rfl
        · exact .inr (List.mem_cons_of_mem _ hc)
theorem pass_srt (bs : List (List (List Val))) : ∀ (h : List Bat) (n : Nat), n ≤ bs.length → Srt n h → (∀ b ∈ h, b.s < bs.length ∧ b = batAt bs b.s) →
    ∃ n', passP n (decide (n = bs.length)) (bs.take n).flatten h = (n', decide (n' = bs.length), (bs.take n').flatten, h.drop (n' - n)) ∧ n ≤ n' ∧ n' ≤ bs.length ∧ Srt (n' + 1) (h.drop (n' - n))
  | [], n, hn, _, _ => ⟨n, by simp [passP], Nat.le_refl _, hn, by simp [Srt]⟩
  | b :: h, n, hn, ⟨h1, h2⟩, hm => by
    obtain ⟨a2, a3⟩ := hm b (List.mem_cons_self ..)
    unfold passP
    by_cases e : b.s = n
    · rw [if_pos e]
      have el : b.l = decide (n + 1 = bs.length) := by rw [a3, e]; rfl
      have er : b.r = bs[n]?.getD [] := by rw [a3, e]; rfl
      have hnl : n < bs.length := by omega
      have ef : (bs.take n).flatten ++ b.r = (bs.take (n + 1)).flatten := by
        rw [er, List.take_succ_eq_append_getElem hnl, List.flatten_append, List.getElem?_eq_getElem hnl]; simp
      rw [el, ef]
      obtain ⟨n', p1, p2, p3, p4⟩ := pass_srt bs h (n + 1) (by omega) (by rw [← e]; exact h2) (fun c hc => hm c (List.mem_cons_of_mem _ hc))
      refine ⟨n', ?_, by omega, p3, ?_⟩
      · rw [p1, show n' - n = (n' - (n + 1)) + 1 by omega, List.drop_succ_cons]
      · rw [show n' - n = (n' - (n + 1)) + 1 by omega, List.drop_succ_cons]; exact p4
    · rw [if_neg e]
      exact ⟨n, by simp, Nat.le_refl _, hn, by simp only [Nat.sub_self, List.drop_zero]; exact ⟨by omega, h2⟩⟩
/-- What was received, as batches may come in any order. -/
structure OnI (s : Strm) (bs : List (List (List Val))) (x : In_) : Prop where
  m : x.m = s
  n : x.n ≤ bs.length
  r : x.r = (bs.take x.n).flatten
  d : x.d = decide (x.n = bs.length)
  srt : Srt (x.n + 1) x.h
  mem : ∀ b ∈ x.h, b.s < x.n + 4 ∧ b.s < bs.length ∧ b = batAt bs b.s
theorem OnI.held {s : Strm} {bs : List (List (List Val))} {x : In_} (h : OnI s bs x) (h8 : ∀ c ∈ bs, c.length ≤ 8) : heldP x.n x.n false x.h = true :=
  srt_held bs h8 x.h x.n x.n false h.srt h.mem (fun e => by cases e)
theorem OnI.ok {s : Strm} {bs : List (List (List Val))} {x : In_} (h : OnI s bs x) (h8 : ∀ c ∈ bs, c.length ≤ 8) (hb : bs.length ≤ 512) (hp : 0 < bs.length) : inE x = 0 := by
  have h1 := flat_le bs h8 x.n
  have h2 := h.n
  rw [← h.r] at h1
  unfold inE
  rw [if_neg (by omega), if_neg (by omega), if_neg (by simp [h.held h8])]
  by_cases e : x.n = bs.length
  · have hn : x.h = [] := by
      cases hh : x.h with
      | nil => rfl
      | cons b t =>
        have := h.srt.mem b (by rw [hh]; exact List.mem_cons_self ..)
        have := (h.mem b (by rw [hh]; exact List.mem_cons_self ..)).2.1
        omega
    rw [if_neg (by rw [h.d, decide_eq_true e]; simp), if_neg (by simp [hn]), if_neg (by omega)]
  · rw [if_pos (by rw [h.d, decide_eq_false e])]
theorem OnI.few {s : Strm} {bs : List (List (List Val))} {x : In_} (h : OnI s bs x) (h8 : ∀ c ∈ bs, c.length ≤ 8) : x.h.length ≤ 3 := by
  have := held_len x.h x.n x.n false (h.held h8) (by omega)
  omega
theorem OnI.start (s : Strm) (bs : List (List (List Val))) (hp : 0 < bs.length) : OnI s bs ⟨s, 0, [], [], false⟩ :=
  ⟨rfl, Nat.zero_le _, by simp, by simp only []; exact (decide_eq_false (by omega)).symm, trivial, fun b hb => by cases hb⟩
theorem OnI.take {s : Strm} {bs : List (List (List Val))} {x : In_} (h : OnI s bs x) (j : Nat) (hj : j < bs.length) : OnI s bs (takeP x (mgAt s bs j)) ∧ x.n ≤ (takeP x (mgAt s bs j)).n := by
  unfold takeP
  by_cases hr : refE x (mgAt s bs j) = 0
  · rw [if_pos hr]
    unfold refE at hr
    split at hr
    · cases hr
    split at hr
    · cases hr
    split at hr
    · cases hr
    split at hr
    · cases hr
    rename_i hd hs hi hc
    have hs' : x.n ≤ j := by have : ¬ j < x.n := hs; omega
    have hc' : j < x.n + 4 := by have : ¬ x.n + 4 ≤ j := hc; omega
    have hne : ∀ c ∈ x.h, c.s ≠ j := by
      intro c hc e
      apply hi
      rw [List.any_eq_true]
      exact ⟨c, hc, by simp [isS, mgAt, e]⟩
    have e1 : (⟨(mgAt s bs j).s, (mgAt s bs j).l, (mgAt s bs j).r⟩ : Bat) = batAt bs j := rfl
    rw [e1]
    have hsI : Srt x.n (insB (batAt bs j) x.h) := ins_srt _ _ _ (h.srt.le (by omega)) hs' hne
    have hmI : ∀ b ∈ insB (batAt bs j) x.h, b.s < x.n + 4 ∧ b.s < bs.length ∧ b = batAt bs b.s := by
      intro b hb
      rcases ins_mem _ _ _ hb with rfl | hb
      · exact ⟨hc', hj, rfl⟩
      · exact h.mem b hb
    obtain ⟨n', p1, p2, p3, p4⟩ := pass_srt bs _ x.n h.n hsI (fun b hb => (hmI b hb).2)
    unfold passI
    simp only []
    rw [h.d, h.r, p1]
    refine ⟨⟨h.m, p3, rfl, rfl, p4, fun b hb => ?_⟩, p2⟩
    have := hmI b (List.mem_of_mem_drop hb)
    exact ⟨by have := this.1; show b.s < n' + 4; omega, this.2⟩
  · rw [if_neg hr]; exact ⟨h, Nat.le_refl _⟩
theorem OnI.pre {s : Strm} {bs : List (List (List Val))} {x : In_} (h : OnI s bs x) : x.r = bs.flatten.take x.r.length := by
  have e : bs.flatten = x.r ++ (bs.drop x.n).flatten := by
    rw [h.r, ← List.flatten_append, List.take_append_drop]
  rw [e, List.take_left]
end Go.Proofs.Ytnajchehdgagmaa
