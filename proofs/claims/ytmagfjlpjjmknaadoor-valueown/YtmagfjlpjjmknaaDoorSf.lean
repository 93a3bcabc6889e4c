/- What slices.symMergeCmpFunc does to rows: any two runs. -/
import Derived.Test.YtmagfjlpjjmknaaDoorSe
namespace Go.Proofs.YtmagfjlpjjmknaaDoor
open Go.Shelf Go.RowKit Go.Lib Go.Sort
set_option linter.unusedVariables false
variable {α : Type} [Inhabited α]
theorem symMerge_any (enc : α → Value) (cf : α → α → Int) (lt' : α → α → Bool) (hS : SWO lt') (g : Nat) (cb : Array Value) (blk off cap : Nat) (d0 : Array α) (w0 : World)
    (eg : ∀ args w, (callFunc g args).run Tryd.prog w = .ok (.enter g args) w) (hcmp : CmpB Tryd.prog g cb enc cf blk off d0.size w0) (R : Row1 enc w0 blk off d0) (hsz : d0.size < 4611686018427387904) :
    ∀ (N a m b : Nat) (d : Array α) (w : World), b - a ≤ N → d0.size = d.size → SB enc w0 blk off d w → a < m → m < b → b ≤ d.size → SortedIn lt' a m d → SortedIn lt' m b d → Agree (ltOf cf) lt' a m b d →
      Calls Tryd.prog 49 #[.slice (some ⟨blk, off, none⟩) d.size cap, .int .i64 a, .int .i64 m, .int .i64 b, .func (.func g) #[] cb] w fun e w' => e = .returned (.tuple #[]) ∧ ∃ d', SB enc w0 blk off d' w' ∧ PermIn a b d d' ∧ SortedIn lt' a b d'
  | 0, a, m, b, d, w, h, _, _, h1, h2, _, _, _, _ => by omega
  | N + 1, a, m, b, d, w, h, hs, S, h1, h2, h3, hl, hr, hag => by
    by_cases hm : m = a + 1
    · exact symMerge_first enc cf lt' hS g cb blk off cap a m b d0 d w0 w eg hcmp R hs S hm h2 h3 (by omega) hr hag
    by_cases hb : b = m + 1
    · exact symMerge_last enc cf lt' hS g cb blk off cap a m b d0 d w0 w eg hcmp R hs S hm h1 hb h3 (by omega) hl hag
    · refine symMerge_gen enc cf lt' hS g cb blk off cap a m b d0 d w0 w eg hcmp R hs S hm h1 hb h2 h3 (by omega) hl hr hag fun a' m' b' d' W k1 k2 k3 k4 k5 k6 k7 k8 k9 => ?_
      have := symMerge_any enc cf lt' hS g cb blk off cap d0 w0 eg hcmp R hsz N a' m' b' d' W (by omega) (by omega) k3 k4 k5 (by omega) k7 k8 k9
      rwa [k2] at this
end Go.Proofs.YtmagfjlpjjmknaaDoor
