/- What is known of beats (pure). -/
import Derived.Test.YtdcgppdljcokpaaLm
namespace Go.Proofs.Ytdcgppdljcokpaa
open Go.Shelf Go.RowKit Go.Lib Go.Sort
set_option linter.unusedVariables false
set_option linter.unusedSimpArgs false
/-- What a beat that is believed says. -/
structure Beaten (bs ss : List Int) (k : Nat) (boot now : Int) : Prop where
  ok : okL bs ss
  one : 1 ≤ k
  lt : k < bs.length
  lt' : k < ss.length
  nz : boot ≠ 0
  ref : refE bs ss (k : Int) boot now = 0
  b : btB bs ss (k : Int) boot now = bs.set k boot
  s : btS bs ss (k : Int) boot now = ss.set k now
  f : btF bs ss (k : Int) boot now = !(bs[k] == boot)
  rise : bs[k] ≤ boot
theorem good_of {bs ss : List Int} {node boot now : Int} (h : btE bs ss node boot now = 0) : ∃ k : Nat, node = (k : Int) ∧ Beaten bs ss k boot now := by
  unfold btE at h
  by_cases hc : chL bs ss = 0
  · rw [if_pos hc] at h
    have hok := chL_zero.1 hc
    have hr := h
    unfold refE at h
    by_cases h1 : node ≤ 0 ∨ (bs.length : Int) ≤ node ∨ boot = 0
    · rw [if_pos h1] at h; omega
    · rw [if_neg h1] at h
      obtain ⟨k, rfl⟩ : ∃ k : Nat, node = (k : Int) := ⟨node.toNat, by omega⟩
      have hk : k < bs.length := by omega
      refine ⟨k, rfl, hok, by omega, hk, by have := hok.1; omega, by omega, hr, ?_, ?_, ?_, ?_⟩
      · unfold btB; rw [if_pos hc, if_pos hr, Int.toNat_natCast]
      · unfold btS; rw [if_pos hc, if_pos hr, Int.toNat_natCast]
      · unfold btF; rw [if_pos ⟨hc, hr⟩, Int.toNat_natCast]; simp [hk]
      · by_cases hs : stale (bs.getD (k : Int).toNat 0) (ss.getD (k : Int).toNat 0) boot now = true
        · rw [if_pos hs] at h; omega
        · unfold stale at hs
          simp [hk] at hs
          exact hs.1
  · rw [if_neg hc] at h; omega
theorem btF_false {bs ss : List Int} {node boot now : Int} (h : btE bs ss node boot now ≠ 0) : btF bs ss node boot now = false := by
  unfold btF
  refine if_neg fun hh => h ?_
  unfold btE
  rw [if_pos hh.1, hh.2]
theorem good_ok {bs ss : List Int} {k : Nat} {boot now : Int} (g : Beaten bs ss k boot now) : okL (bs.set k boot) (ss.set k now) := ⟨by simp [g.ok.1], by simp; exact g.ok.2.1, by simp; exact g.ok.2.2⟩
theorem good_ref {bs ss : List Int} {k : Nat} {boot now : Int} (g : Beaten bs ss k boot now) (b2 : Int) (h2 : b2 ≠ 0) : refE (bs.set k boot) (ss.set k now) (k : Int) b2 now = if b2 < boot then 17 else 0 := by
  unfold refE
  have := g.one
  have h1 := g.lt
  have h1' := g.lt'
  rw [if_neg (by simp; omega)]
  unfold stale
  simp [h1, h1']
theorem good_again {bs ss : List Int} {k : Nat} {boot now : Int} (g : Beaten bs ss k boot now) : btB (bs.set k boot) (ss.set k now) (k : Int) boot now = bs.set k boot ∧ btS (bs.set k boot) (ss.set k now) (k : Int) boot now = ss.set k now ∧ btF (bs.set k boot) (ss.set k now) (k : Int) boot now = false ∧ btE (bs.set k boot) (ss.set k now) (k : Int) boot now = 0 := by
  have hr : refE (bs.set k boot) (ss.set k now) (k : Int) boot now = 0 := by rw [good_ref g boot g.nz, if_neg (by omega)]
  have hc := chL_ok (good_ok g)
  have h1 := g.lt
  unfold btB btS btF btE
  rw [if_pos hc, if_pos hc, if_pos hc, if_pos hr, if_pos hr, if_pos ⟨hc, hr⟩, hr, Int.toNat_natCast]
  refine ⟨by simp, by simp, by simp [h1], rfl⟩
theorem good_elder {bs ss : List Int} {k : Nat} {boot now : Int} (g : Beaten bs ss k boot now) (h : 2 ≤ boot) : btE (bs.set k boot) (ss.set k now) (k : Int) (boot - 1) now = 17 := by
  have hc := chL_ok (good_ok g)
  unfold btE
  rw [if_pos hc, good_ref g _ (by omega), if_pos (by omega)]
/-- Leases in a box. -/
structure BoxL (b : Nat) (p : Option Addr) (c : Nat) (q : Option Addr) (d : Nat) (bs ss : List Int) (W : World) : Prop where
  row : W.heap[b]? = some (.cells #[.slice p bs.length c, .slice q ss.length d] 24 (0, 0))
  n1 : NumsL W (.slice p bs.length c) bs
  n2 : NumsL W (.slice q ss.length d) ss
theorem BoxL.below {b c d : Nat} {p q : Option Addr} {bs ss : List Int} {W W' : World} (h : BoxL b p c q d bs ss W) (hb : Below W.heap.size W W') : BoxL b p c q d bs ss W' :=
  ⟨by rw [hb.block _ (Array.getElem?_eq_some_iff.1 h.row).1]; exact h.row, h.n1.below hb, h.n2.below hb⟩
theorem BoxL.c0 {b c d : Nat} {p q : Option Addr} {bs ss : List Int} {W : World} (h : BoxL b p c q d bs ss W) : W.cell? ⟨b, 0, none⟩ = some (.slice p bs.length c) := cell_of_row (k := 0) h.row rfl
theorem BoxL.c1 {b c d : Nat} {p q : Option Addr} {bs ss : List Int} {W : World} (h : BoxL b p c q d bs ss W) : W.cell? ⟨b, 1, none⟩ = some (.slice q ss.length d) := cell_of_row (k := 1) h.row rfl
theorem BoxL.new {c d : Nat} {p q : Option Addr} {bs ss : List Int} {W V : World} (h1 : NumsL W (.slice p bs.length c) bs) (h2 : NumsL W (.slice q ss.length d) ss) (hV : W.alloc (.cells #[.slice p bs.length c, .slice q ss.length d] 24) = V) : BoxL W.heap.size p c q d bs ss V ∧ Below W.heap.size W V := by
  have hb : Below W.heap.size W V := by rw [← hV]; exact one_below _ _
  exact ⟨⟨by rw [← hV]; exact heap_alloc_new W _, h1.below hb, h2.below hb⟩, hb⟩
end Go.Proofs.Ytdcgppdljcokpaa
