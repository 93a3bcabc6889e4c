/- Rows that are cut: the iterator. -/
import Derived.Test.YtnajchehdgagmaaAu
import Derived.RangeFuncNested
import Derived.RangeFuncBound
import Derived.RangeFuncCalls
import Derived.RangeFuncLeaves
import Derived.Shelf.Abstract
import Derived.Shelf.RegionOpen
import Derived.WalkKit
import Derived.OwnWalkIn
import Derived.TacticsInMore
import Derived.LoopNIn
import Derived.LoopIn
namespace Go.Proofs.Ytnajchehdgagmaa
open Go.Shelf Go.RowKit Go.Lib Go.Sort
set_option linter.unusedVariables false
set_option linter.unusedSimpArgs false
attribute [local go_sem ↓] Go.wp_at_zero Go.wp_at_succ
attribute [local go_sem] Oper.semAt_some
/-- Rows, eight by eight. -/
def chunkF {α : Type} : Nat → List α → List (List α)
  | 0, l => [l]
  | f + 1, l => if 8 < l.length then l.take 8 :: chunkF f (l.drop 8) else [l]
theorem chunkF_any {α : Type} : ∀ (f g : Nat) (l : List α), l.length ≤ f → l.length ≤ g → chunkF f l = chunkF g l
  | 0, 0, l, _, _ => rfl
  | 0, g + 1, l, h, _ => by
    unfold chunkF
    rw [if_neg (by omega)]
  | f + 1, 0, l, _, h => by
    unfold chunkF
    rw [if_neg (by omega)]
  | f + 1, g + 1, l, h1, h2 => by
    unfold chunkF
    by_cases h8 : 8 < l.length
    · rw [if_pos h8, if_pos h8, chunkF_any f g (l.drop 8) (by simp; omega) (by simp; omega)]
    · rw [if_neg h8, if_neg h8]
def chunkP {α : Type} (l : List α) : List (List α) := chunkF l.length l
theorem chunkP_more {α : Type} {l : List α} (h : 8 < l.length) : chunkP l = l.take 8 :: chunkP (l.drop 8) := by
  unfold chunkP
  obtain ⟨n, hn⟩ : ∃ n, l.length = n + 1 := ⟨l.length - 1, by omega⟩
  rw [hn, chunkF, if_pos h, chunkF_any n (l.drop 8).length (l.drop 8) (by simp; omega) (Nat.le_refl _)]
theorem chunkP_last {α : Type} {l : List α} (h : ¬ 8 < l.length) : chunkP l = [l] := by
  unfold chunkP
  cases hn : l.length with
  | zero => rfl
  | succ n => rw [chunkF, if_neg h]
theorem chunks_any (q : Option Addr) (n c : Nat) (w : World) : Calls Try.prog 17 #[.slice q n c] w fun e w' => e = .returned (.func (.func 28) #[] #[.pointer (some ⟨w.heap.size, 0, none⟩)]) ∧ w' = w.alloc (.cells #[.slice q n c] 27) := by
  go_enter Try.func17, Try.ntmps17
  go_wp2_with fail
  go_ret
  exact ⟨rfl, rfl⟩
/-- A piece of the rows. -/
def Piece (K : Nat → Prop) (W0 : World) : Type := { x : Value × List (List Val) // ∃ p c, x.1 = .slice p x.2.length c ∧ ListIs rRow 1 24 K W0 x.1 x.2 }
theorem list_takeR {K : Nat → Prop} {w : World} {q : Option Addr} {n c : Nat} {bs : List (List Val)} (h : ListIs rRow 1 24 K w (.slice q n c) bs) (i : Nat) (hi : i ≤ bs.length) : ListIs rRow 1 24 K w (.slice q i c) (bs.take i) := by
  obtain ⟨q', c', e, hby, hp⟩ := h
  cases e
  have hl : (bs.take i).length = i := by simp; omega
  refine ⟨q, c, by rw [hl], ⟨by rw [hl]; omega, by rw [hl]; omega⟩, fun h0 => ?_⟩
  obtain ⟨b, o, rfl, hKb, hc⟩ := hp (by omega)
  refine ⟨b, o, rfl, hKb, fun j hj => ?_⟩
  obtain ⟨cs, h1, h2, h3⟩ := hc j (by omega)
  exact ⟨cs, h1, h2, by simpa using h3⟩
theorem list_dropR {K : Nat → Prop} {w : World} {b o n c : Nat} {bs : List (List Val)} (h : ListIs rRow 1 24 K w (.slice (some ⟨b, o, none⟩) n c) bs) (i : Nat) (hi : i < bs.length) : ListIs rRow 1 24 K w (.slice (some ⟨b, o + i, none⟩) (bs.length - i) (c - i)) (bs.drop i) := by
  obtain ⟨q', c', e, hby, hp⟩ := h
  cases e
  have hl : (bs.drop i).length = bs.length - i := by simp
  refine ⟨_, _, by rw [hl], ⟨by rw [hl]; omega, by rw [hl]; omega⟩, fun h0 => ?_⟩
  obtain ⟨b', o', e, hKb, hc⟩ := hp (by omega)
  cases e
  refine ⟨b, o + i, rfl, hKb, fun j hj => ?_⟩
  obtain ⟨cs, h1, h2, h3⟩ := hc (i + j) (by omega)
  refine ⟨cs, h1, fun k u hu => ?_, by simpa using h3⟩
  have := h2 k u hu
  rwa [show o + (i + j) * 1 + k = o + i + j * 1 + k by omega] at this
def sLen : Value → Nat
  | .slice _ n _ => n
  | _ => 0
set_option maxRecDepth 100000 in
set_option maxHeartbeats 2000000 in
theorem iter_in (n : Nat) (hn : 1 ≤ n) (l B : Nat) (K : Nat → Prop) (W0 : World) (q : Option Addr) (c : Nat) (rows : List (List Val)) (hl : ListIs rRow 1 24 K W0 (.slice q rows.length c) rows) (J Jx : List (Piece K W0) → World → Prop)
    (hY : ∀ pre x W, J pre W → pre.length < rows.length + 1 → YieldAt Fence.wide (n - 1) Try.prog l #[x.1.1] W fun e W' =>
      (e = .returned (.bool true) ∧ J (pre ++ [x]) W' ∧ True) ∨ (e = .returned (.bool false) ∧ Jx (pre ++ [x]) W'))
    (W : World) (hB : W.cell? ⟨B, 0, none⟩ = some (.slice q rows.length c)) (h0 : J [] W) :
    CallsIn Fence.wide n Try.prog 28 #[.func (.yield l) #[] #[], .pointer (some ⟨B, 0, none⟩)] W fun e W' => (∃ v, e = .returned v) ∧
      ((∃ ys, ys.map (·.1.2) = chunkP rows ∧ J ys W') ∨ (∃ pre, True ∧ Jx pre W')) := by
  have hr63 : rows.length ≤ 5864062014806 := by obtain ⟨_, _, _, h9, _⟩ := hl; omega
  have HL0 : Hid (ListIs rRow 1 24 K W0 (.slice q rows.length c) rows) := hl
  have HY := hid hY
  clear hl hY
  have h28 : Fence.wide.fn 28 := trivial
  refine callsIn_of_wp Try.func28 rfl h28 ?_ rfl
  simp only [Try.ntmps28, List.size_toArray, List.length_cons, List.length_nil, Nat.reduceAdd, Nat.reduceSub, Array.replicate_succ, Array.replicate_zero, List.push_toArray, List.append_toArray, List.nil_append, List.cons_append]
  gi_wp2
  gi_loopw [3] (fun p wr => ∃ (pre : List (Piece K W0)) (rest : List (List Val)) (q : Option Addr) (c : Nat), p = .slice q rest.length c ∧ rest.length ≤ 5864062014806 ∧ pre.length + rest.length ≤ rows.length ∧ Hid (pre.map (·.1.2) ++ chunkP rest = chunkP rows) ∧ Hid (ListIs rRow 1 24 K W0 (.slice q rest.length c) rest) ∧ Hid (J pre wr))
    (fun p _ => sLen p)
  case atStart =>
    exact ⟨[], rows, q, c, rfl, hr63, by simp, rfl, HL0, h0⟩
  case round =>
    obtain ⟨pre, rest, q, c, rfl, hr6, hpl, HP, HL, HJ⟩ := hrel
    by_cases h8 : 8 < rest.length
    · have hlt := list_takeR HL.out 8 (by omega)
      obtain ⟨b, o, rfl, _⟩ : ∃ b o, q = some ⟨b, o, none⟩ ∧ True := by
        obtain ⟨_, _, e, _, hp⟩ := HL.out
        obtain ⟨b, o, rfl, _⟩ := hp (by omega)
        cases e
        exact ⟨b, o, rfl, trivial⟩
      have hld := list_dropR HL.out 8 (by omega)
      have hcap : rest.length ≤ c := by obtain ⟨_, _, e, h9, _⟩ := HL.out; cases e; exact h9.2
      have htl : (rest.take 8).length = 8 := by simp; omega
      have hdl : (rest.drop 8).length = rest.length - 8 := by simp
      obtain ⟨x, hx⟩ : ∃ x : Piece K W0, x = ⟨(.slice (some ⟨b, o, none⟩) 8 c, rest.take 8), ⟨some ⟨b, o, none⟩, c, by simp only [htl], hlt⟩⟩ := ⟨_, rfl⟩
      have hx1 : x.1.1 = .slice (some ⟨b, o, none⟩) 8 c := by rw [hx]
      have hx2 : x.1.2 = rest.take 8 := by rw [hx]
      obtain ⟨fn, tmps, assign, body, hy, hR⟩ := HY.out pre x wr HJ.out (by omega)
      rw [hx1] at hy
      have HR := hid hR
      have z8 : (8 : Int) < (rest.length : Int) := by omega
      have zc8 : (8 : Int) ≤ (c : Int) := by omega
      have zc9 : ¬ c = 8 := by omega
      have HP2 : Hid ((pre ++ [x]).map (·.1.2) ++ chunkP (rest.drop 8) = chunkP rows) := by
        show _ = _
        rw [← HP.out, chunkP_more h8, List.map_append, List.append_assoc]
        simp [hx2]
      have HLD : Hid (ListIs rRow 1 24 K W0 (.slice (some ⟨b, o + 8, none⟩) (rest.drop 8).length (c - 8)) (rest.drop 8)) := by rw [hdl]; exact hld
      have HDL : Hid ((rest.drop 8).length = rest.length - 8) := hdl
      clear hR hx hx1 hx2 hlt hld htl hdl
      gi_wp2
      refine HR.out.mono ?_
      rintro e W3 (⟨rfl, hJ3, _⟩ | ⟨rfl, hJx3⟩)
      · have HJ3 := hid hJ3
        clear hJ3
        gi_wp2
        go_roundw
        case rel =>
          have hd := HDL.out
          exact ⟨pre ++ [x], rest.drop 8, some ⟨b, o + 8, none⟩, c - 8, by rw [hd], by omega, by rw [List.length_append]; simp only [List.length_cons, List.length_nil]; omega, HP2, HLD, HJ3⟩
        case measure => simp [sLen]; omega
      · gi_wp2
        refine bodyPost_ret (results_none rfl _ _ _) rfl ?_
        exact ⟨⟨_, rfl⟩, .inr ⟨_, trivial, hJx3⟩⟩
    · obtain ⟨x, hx⟩ : ∃ x : Piece K W0, x = ⟨(.slice q rest.length c, rest), ⟨q, c, rfl, HL.out⟩⟩ := ⟨_, rfl⟩
      have hx1 : x.1.1 = .slice q rest.length c := by rw [hx]
      have hx2 : x.1.2 = rest := by rw [hx]
      obtain ⟨fn, tmps, assign, body, hy, hR⟩ := HY.out pre x wr HJ.out (by omega)
      rw [hx1] at hy
      have HR := hid hR
      have z8 : ¬ (8 : Int) < (rest.length : Int) := by omega
      have HP2 : Hid ((pre ++ [x]).map (·.1.2) = chunkP rows) := by
        show _ = _
        rw [← HP.out, chunkP_last h8, List.map_append]
        simp [hx2]
      clear hR hx hx1 hx2
      gi_wp2
      refine HR.out.mono ?_
      rintro e W3 (⟨rfl, hJ3, _⟩ | ⟨rfl, hJx3⟩)
      · gi_wp2
        go_end0
        exact ⟨⟨_, rfl⟩, .inl ⟨_, HP2.out, hJ3⟩⟩
      · gi_wp2
        go_end0
        exact ⟨⟨_, rfl⟩, .inr ⟨_, trivial, hJx3⟩⟩
theorem iter_stops (n : Nat) (hn : 1 ≤ n) (B : Nat) (K : Nat → Prop) (W0 : World) (q : Option Addr) (c : Nat) (rows : List (List Val)) (hl : ListIs rRow 1 24 K W0 (.slice q rows.length c) rows) (w : World) (hlt : B < w.heap.size) (hB : w.cell? ⟨B, 0, none⟩ = some (.slice q rows.length c)) :
    SeqStopsK Fence.wide n Try.prog 28 #[.pointer (some ⟨B, 0, none⟩)] (fun x : Piece K W0 => #[x.1.1]) (fun _ _ => True) (fun ys => ys.map (·.1.2) = chunkP rows) (fun _ => True) (rows.length + 1) w := fun l J Jx W hW _ _ hY h0 =>
  iter_in n hn l B K W0 q c rows hl J Jx hY W ((hW.cell (p := ⟨B, 0, none⟩) hlt).trans hB) h0
end Go.Proofs.Ytnajchehdgagmaa
