/- What slices.SortStableFunc does to rows: they are sorted, those alike as they came. -/
import Derived.Test.YtmagfjlpjjmknaaDoorSg
import Derived.Test.YtmagfjlpjjmknaaDoorSi
namespace Go.Proofs.YtmagfjlpjjmknaaDoor
open Go.Shelf Go.RowKit Go.Lib Go.Sort
set_option linter.unusedVariables false
set_option linter.unusedSimpArgs false
variable {α : Type} [Inhabited α]
set_option maxHeartbeats 4000000 in
set_option maxRecDepth 1000000 in
theorem sortStable_any (enc : α → Value) (cf : α → α → Int) (tag : α → Nat) (hS : SWO (ltOf cf)) (g : Nat) (cb : Array Value) (blk off cap : Nat) (d : Array α) (w : World)
    (eg : ∀ args w, (callFunc g args).run Tryd.prog w = .ok (.enter g args) w) (hcmp : CmpB Tryd.prog g cb enc cf blk off d.size w) (R : Row1 enc w blk off d) (S : SB enc w blk off d w) (hsz : d.size < 1152921504606846976)
    (htag : ∀ i j, i < j → j < d.size → tag d[i]! < tag d[j]!) :
    Calls Tryd.prog 27 #[.slice (some ⟨blk, off, none⟩) d.size cap, .func (.func g) #[] cb] w fun e w' => e = .returned (.tuple #[]) ∧ ∃ d', SB enc w blk off d' w' ∧ PermIn 0 d.size d d' ∧ SortedIn (tlt (ltOf cf) tag) 0 d.size d' := by
  have C : Aside (Calls Tryd.prog 39 #[.slice (some ⟨blk, off, none⟩) d.size cap, .int .i64 d.size, .func (.func g) #[] cb] w fun e w' => e = .returned (.tuple #[]) ∧ ∃ d', SB enc w blk off d' w' ∧ PermIn 0 d.size d d' ∧ SortedIn (tlt (ltOf cf) tag) 0 d.size d') := stable_any enc cf tag hS g cb blk off cap d d w w eg hcmp R rfl S hsz htag fun a b dk W h1 h2 h3 h4 => by
    have := insertion_any enc cf g cb blk off cap a b d dk w W eg hcmp R h1.symm h2 h3 (by omega) (by omega)
    rwa [h1] at this
  clear S hcmp eg htag
  go_enter Tryd.func27, Tryd.ntmps27
  go_wp2_with fail
  refine C.out.mono ?_
  rintro e w2 ⟨rfl, h⟩
  have H : Hid (∃ d', SB enc w blk off d' w2 ∧ PermIn 0 d.size d d' ∧ SortedIn (tlt (ltOf cf) tag) 0 d.size d') := h
  clear h C
  go_wp2
  go_end0
  exact ⟨rfl, H.out⟩
end Go.Proofs.YtmagfjlpjjmknaaDoor
