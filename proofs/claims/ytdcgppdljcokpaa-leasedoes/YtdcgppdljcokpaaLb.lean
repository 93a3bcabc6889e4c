/- Leases: what mayBe, Check, the reference's Check, a clone, refuse answer. -/
import Derived.Test.YtdcgppdljcokpaaLa
namespace Go.Proofs.Ytdcgppdljcokpaa
open Go.Shelf Go.RowKit Go.Lib Go.Sort
set_option linter.unusedVariables false
set_option linter.unusedSimpArgs false
attribute [local go_sem ↓] Go.wp_at_zero Go.wp_at_succ
theorem mayBe_any (n : Int) (w : World) : Calls Try.prog 18 #[.int .i64 n] w fun e w' => e = .returned (.bool (decide (2 ≤ n) && decide (n ≤ 8))) ∧ Below w.heap.size w w' := by
  by_cases h1 : (2 : Int) ≤ n
  · by_cases h2 : n ≤ 8
    · go_enter Try.func18, Try.ntmps18
      go_wp2_with fail
      go_ret
      exact ⟨by simp [h1, h2], Below.refl _ _⟩
    · go_enter Try.func18, Try.ntmps18
      go_wp2_with fail
      go_ret
      exact ⟨by simp [h1, h2], Below.refl _ _⟩
  · go_enter Try.func18, Try.ntmps18
    go_wp2_with fail
    go_ret
    exact ⟨by simp [h1]; omega, Below.refl _ _⟩
set_option maxRecDepth 100000 in
set_option maxHeartbeats 2000000 in
theorem check_any (u v : Value) (bs ss : List Int) (w : World) (h : NumsL w u bs) (h' : NumsL w v ss) :
    Calls Try.prog 16 #[.agg #[u, v]] w fun e w' => e = .returned (.int .i64 (chL bs ss)) ∧ Below w.heap.size w w' := by
  have CM : Hid (∀ n W, Calls Try.prog 18 #[.int .i64 n] W fun e w' => e = .returned (.bool (decide (2 ≤ n) && decide (n ≤ 8))) ∧ Below W.heap.size W w') := mayBe_any
  obtain ⟨p, c, rfl, _⟩ := h
  obtain ⟨q, d, rfl, _⟩ := h'
  obtain ⟨W0, hW0, hb0, hs0, hx⟩ := box2 w (.slice p bs.length c) (.slice q ss.length d)
  obtain ⟨x0, x1⟩ := hx W0 (Below.refl _ _)
  have HB0 : Hid (Below w.heap.size w W0) := hb0
  by_cases hl : bs.length = ss.length
  · have t1 : ((bs.length : Int) != (ss.length : Int)) = false := by simp; omega
    have HC : Hid (chL bs ss = if (decide (2 ≤ (bs.length : Int)) && decide ((bs.length : Int) ≤ 8)) = true then 0 else 6) := by
      show _ = _
      unfold chL
      by_cases h1 : 2 ≤ bs.length <;> by_cases h2 : bs.length ≤ 8 <;> simp [hl] <;> simp_all <;> omega
    clear hl hx hb0 hs0
    go_enter Try.func16, Try.ntmps16
    go_wp2_with fail
    refine (CM.out _ _).mono ?_
    rintro e w1 ⟨rfl, hb1⟩
    have HB1 : Hid (Below w.heap.size w w1) := HB0.out.trans (hb1.mono HB0.out.size)
    clear hb1 x0 x1
    cases hd : (decide (2 ≤ (bs.length : Int)) && decide ((bs.length : Int) ≤ 8)) with
    | true =>
      rw [hd] at HC
      go_wp2_with fail
      go_ret
      exact ⟨by rw [HC.out]; rfl, HB1.out⟩
    | false =>
      rw [hd] at HC
      go_wp2_with fail
      go_ret
      exact ⟨by rw [HC.out]; rfl, HB1.out⟩
  · have t1 : ((bs.length : Int) != (ss.length : Int)) = true := by simp; omega
    have HC : Hid (chL bs ss = 6) := if_neg (fun h => hl h.1)
    clear hl hx hb0 hs0
    go_enter Try.func16, Try.ntmps16
    go_wp2_with fail
    go_ret
    exact ⟨by rw [HC.out]; rfl, HB0.out⟩
set_option maxRecDepth 100000 in
set_option maxHeartbeats 2000000 in
theorem refCheck_any (u v : Value) (bs ss : List Int) (w : World) (h : NumsL w u bs) (h' : NumsL w v ss) :
    Calls Try.prog 17 #[.agg #[u, v]] w fun e w' => e = .returned (.int .i64 (chL bs ss)) ∧ Below w.heap.size w w' := by
  obtain ⟨p, c, rfl, _⟩ := h
  obtain ⟨q, d, rfl, _⟩ := h'
  obtain ⟨W0, hW0, hb0, hs0, hx⟩ := box2 w (.slice p bs.length c) (.slice q ss.length d)
  obtain ⟨x0, x1⟩ := hx W0 (Below.refl _ _)
  have HB0 : Hid (Below w.heap.size w W0) := hb0
  by_cases hl : bs.length = ss.length
  · have t1 : ((bs.length : Int) != (ss.length : Int)) = false := by simp; omega
    by_cases h1 : (bs.length : Int) < 2
    · have HC : Hid (chL bs ss = 6) := if_neg (fun h => by omega)
      clear hl hx hb0 hs0
      go_enter Try.func17, Try.ntmps17
      go_wp2_with fail
      go_ret
      exact ⟨by rw [HC.out]; rfl, HB0.out⟩
    · by_cases h2 : (8 : Int) < (bs.length : Int)
      · have HC : Hid (chL bs ss = 6) := if_neg (fun h => by omega)
        clear hl hx hb0 hs0
        go_enter Try.func17, Try.ntmps17
        go_wp2_with fail
        go_ret
        exact ⟨by rw [HC.out]; rfl, HB0.out⟩
      · have HC : Hid (chL bs ss = 0) := if_pos ⟨hl, by omega, by omega⟩
        clear hl hx hb0 hs0
        go_enter Try.func17, Try.ntmps17
        go_wp2_with fail
        go_ret
        exact ⟨by rw [HC.out]; rfl, HB0.out⟩
  · have t1 : ((bs.length : Int) != (ss.length : Int)) = true := by simp; omega
    have HC : Hid (chL bs ss = 6) := if_neg (fun h => hl h.1)
    clear hl hx hb0 hs0
    go_enter Try.func17, Try.ntmps17
    go_wp2_with fail
    go_ret
    exact ⟨by rw [HC.out]; rfl, HB0.out⟩
theorem add_off (b o k : Nat) : (⟨b, o, none⟩ : Addr).add k = ⟨b, o + k, none⟩ := by unfold Addr.add; split <;> simp_all
theorem nums_add {w : World} {b o : Nat} {zs : List Int} (h : NIs w b o zs) : ∀ j u, (zs.map fun z => Value.int .u64 z)[j]? = some u → w.cell? ((⟨b, o, none⟩ : Addr).add j) = some u := fun j u hu => by
  rw [add_off]
  rw [List.getElem?_map] at hu
  by_cases hj : j < zs.length
  · rw [List.getElem?_eq_getElem hj] at hu
    rw [h j hj]
    simpa using hu
  · rw [List.getElem?_eq_none (by omega)] at hu; cases hu
set_option maxRecDepth 100000 in
set_option maxHeartbeats 2000000 in
theorem clone_any (v : Value) (zs : List Int) (w : World) (hz : NumsL w v zs) (h0 : 0 < zs.length) :
    Calls Try.prog 19 #[v] w fun e w' => ∃ u, e = .returned u ∧ OwnN w.heap.size w' u zs ∧ Below w.heap.size w w' := by
  obtain ⟨p, c, rfl, hlc, hcc, hl, hs, hn, hp⟩ := hz
  obtain ⟨b, o, rfl, hB, hc⟩ := hp h0
  obtain ⟨i0, hi0, hz0', hz1', hz2'⟩ := info25
  have hown : (w.alloc (.cells #[] 25)).ownsRow w.heap.size 25 1 (.slice (some ⟨w.heap.size, 0, none⟩) 0 0) 0 [] := ⟨rfl, .inr ⟨w.heap.size, 0, #[], rfl, Nat.le_refl _, heap_alloc_new w _, Nat.le_refl _, Nat.zero_le _, rfl, rfl⟩⟩
  have HC : Hid (∀ j u, (zs.map fun z => Value.int .u64 z)[j]? = some u → (w.alloc (.cells #[] 25)).cell? ((⟨b, o, none⟩ : Addr).add j) = some u) := nums_add (hc.below hB (one_below _ _))
  have hq : (binOp .eql 22 (.slice (some ⟨b, o, none⟩) zs.length c) (.slice none 0 0)).run Try.prog w = .ok (.bool false) w := Lib.run_eql_slice_nil (h := Try.underlying22) ..
  clear hc hp hs hn
  go_enter Try.func19, Try.ntmps19
  go_wp2_with (at_builtin; refine wpList_append_own _ rfl _ _ 22 rfl w.heap.size 25 i0 (.int .u64 0) 1 8 Try.underlying22 hi0 hz0' hz1' hz2' rfl (by decide) _ 0 [] rfl hown ⟨b, o, none⟩ zs.length c (zs.map fun z => .int .u64 z) rfl (by simp) HC.out (fun x hx => by simp at hx; obtain ⟨z, _, rfl⟩ := hx; rfl) (by unfold maxLen; omega) (by omega) (by simp) ?_; intro v' w3 hown' hgrow3 hnil3)
  go_ret
  refine ⟨_, rfl, ?_, ?_⟩
  · unfold OwnN; simpa using hown'
  · exact Below.grown ((Below.refl _ _).alloc (Nat.le_refl _) _) hgrow3 (by simp) (fun j hj => by have := (hown.lt _ hj).1; omega)
/-- Why a beat is not believed. -/
def stale (b s boot now : Int) : Bool := decide (boot < b) || (decide (boot = b) && decide (now < s))
def refE (bs ss : List Int) (node boot now : Int) : Int :=
  if node ≤ 0 ∨ (bs.length : Int) ≤ node ∨ boot = 0 then 2 else if stale (bs.getD node.toNat 0) (ss.getD node.toNat 0) boot now = true then 17 else 0
end Go.Proofs.Ytdcgppdljcokpaa
