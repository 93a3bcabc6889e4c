/- How a query is written. -/
import Derived.Test.YtfifphfihdhlaaaGreatDoorRbRc
import Derived.Deep.DeepCutAuto
set_option maxRecDepth 100000
set_option maxHeartbeats 32000000
namespace Go.Proofs.YtfifphfihdhlaaaGreatDoor
open Go.Shelf Go.RowKit Go.Lib Go.Sort
set_option linter.unusedVariables false
set_option linter.unusedSimpArgs false
attribute [local go_sem ↓] Go.wp_at_zero Go.wp_at_succ
theorem flat_len : ∀ (l : List (List UInt8)) (m : Nat), (∀ t ∈ l, t.length ≤ m) → l.flatten.length ≤ l.length * m
 | [], m, h => by simp
 | x :: l, m, h => by
  have h1 := flat_len l m fun t ht => h t (List.mem_cons_of_mem _ ht)
  have h2 := h x (List.mem_cons_self ..)
  simp only [List.flatten_cons, List.length_append, List.length_cons, Nat.add_mul, Nat.one_mul]
  omega
structure GA (w : World) : Prop where
 g2 : Glob2 w
 gw : GW w
 h10 : 10 ≤ w.heap.size
theorem GA.below {w w' : World} (h : GA w) (hb : Bl w w') : GA w' := ⟨h.g2.below hb, h.gw.below hb, Nat.le_trans h.h10 hb.size⟩
end Go.Proofs.YtfifphfihdhlaaaGreatDoor
