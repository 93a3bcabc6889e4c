/- What the laws of a bound query's items and columns say: pure. -/
import Derived.Test.YtfifphfihdhlaaaGreatDoorCaCb
set_option maxRecDepth 100000
set_option maxHeartbeats 32000000
namespace Go.Proofs.YtfifphfihdhlaaaGreatDoor.Bd
open Go.RowKit Go.Lib
set_option linter.unusedVariables false
set_option linter.unusedSimpArgs false
theorem colR_err {s : Scp} {t : List UInt8} {e : Int} (h : colR s t = .error e) : e ≠ 0 := by
 unfold colR oneP at h
 split at h
 · cases h
 · cases h; decide
theorem exprR_err {s : Scp} : ∀ (l : List Stp) (e : Int), exprR s l = .error e → e ≠ 0
 | [], e, h => by cases h
 | x :: l, e, h => by
  unfold exprR at h
  split at h
  · rename_i y hy
    cases h
    unfold stepR at hy
    split at hy
    · split at hy
      · rename_i z hz; cases hy; exact colR_err hz
      · cases hy
    · cases hy
  · split at h
    · rename_i m hm; cases h; exact exprR_err l _ hm
    · cases h
theorem joinB_err {s : Scp} {q : Qry} {e : Int} (h : joinB s q = .error e) : e ≠ 0 := by
 unfold joinB at h
 split at h
 · cases h
 · split at h
   · rename_i z hz
     cases h
     unfold joinR at hz
     split at hz
     · rename_i y hy; cases hz; exact colR_err hy
     · split at hz
       · rename_i y hy; cases hz; exact colR_err hy
       · split at hz
         · cases hz
         · cases hz; decide
   · cases h
theorem whereR_err {s : Scp} {l : List Stp} {e : Int} (h : whereR s l = .error e) : e ≠ 0 := by
 unfold whereR at h
 split at h
 · cases h
 · split at h
   · rename_i y hy; cases h; exact exprR_err _ _ hy
   · split at h
     · cases h
     · rename_i h0; cases h; exact h0
theorem groupGo_err {s : Scp} : ∀ (l : List (List UInt8)) (acc : List Int) (e : Int), groupGo s acc l = .error e → e ≠ 0
 | [], acc, e, h => by cases h
 | t :: l, acc, e, h => by
  unfold groupGo at h
  split at h
  · rename_i y hy; cases h; exact colR_err hy
  · split at h
    · cases h; decide
    · exact groupGo_err l _ _ h
theorem itemsGo_err {s : Scp} {gr : Bool} {g : List Int} : ∀ (l : List Itm) (e : Int), itemsGo s gr g l = .error e → e ≠ 0
 | [], e, h => by cases h
 | x :: l, e, h => by
  unfold itemsGo at h
  split at h
  · rename_i y hy
    cases h
    unfold itemR at hy
    split at hy
    · cases hy
    · split at hy
      · rename_i z hz; cases hy; exact exprR_err _ _ hz
      · cases hy
  · split at h
    · split at h
      · rename_i m hm; cases h; exact itemsGo_err l _ hm
      · cases h
    · rename_i h0; cases h; exact h0
theorem itemsR_err {s : Scp} {gr : Bool} {g : List Int} {l : List Itm} {e : Int} (h : itemsR s gr g l = .error e) : e ≠ 0 := by
 unfold itemsR at h
 split at h
 · split at h
   · cases h; decide
   · cases h
 · exact itemsGo_err _ _ h
theorem bind_err {q : Qry} {l : List Tab} {e : Int} (h : bindP q l = .error e) : e ≠ 0 := by
 unfold bindP at h
 split at h
 · rename_i h0; cases h; exact h0
 split at h
 · rename_i h0; cases h; exact h0
 unfold resolveP at h
 split at h
 · cases h; decide
 unfold resolveS at h
 split at h
 · rename_i z hz; cases h; exact joinB_err hz
 split at h
 · rename_i z hz; cases h; exact whereR_err hz
 split at h
 · rename_i z hz; cases h; exact groupGo_err _ _ _ hz
 split at h
 · rename_i z hz; cases h; exact itemsR_err hz
 · cases h
end Go.Proofs.YtfifphfihdhlaaaGreatDoor.Bd
