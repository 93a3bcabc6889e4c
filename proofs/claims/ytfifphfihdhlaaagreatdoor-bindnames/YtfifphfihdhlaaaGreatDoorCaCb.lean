/- What a catalog is, and what binding a query by it comes to: pure functions. No walk stands in this text. -/
import Derived.Test.YtfifphfihdhlaaaGreatDoorBhBiBj
import Derived.Test.YtfifphfihdhlaaaGreatDoorQxQy
set_option maxRecDepth 100000
set_option maxHeartbeats 32000000
namespace Go.Proofs.YtfifphfihdhlaaaGreatDoor.Bd
open Go.RowKit Go.Lib
set_option linter.unusedVariables false
set_option linter.unusedSimpArgs false
def nameP (s : List UInt8) : Int := if s.length = 0 ∨ 64 < s.length then 4 else if validD s then 0 else 9
def colP (c : Clm) (bs : List Clm) : Int := if nameP c.n = 0 then (if bs.any (fun b => b.n == c.n) then 15 else if 1 ≤ c.k ∧ c.k ≤ 3 then 0 else 5) else nameP c.n
def colsGo : List Clm → List Clm → Int
 | _, [] => 0
 | bs, c :: l => if colP c bs = 0 then colsGo (bs ++ [c]) l else colP c bs
def colsP (l : List Clm) : Int := if l.length = 0 ∨ 8 < l.length then 3 else colsGo [] l
def tabP (t : Tab) : Int := if nameP t.n = 0 then colsP t.c else nameP t.n
def isNamed (n : List UInt8) (t : Tab) : Bool := t.n == n
def findP (l : List Tab) (n : List UInt8) : Option Tab := l.find? (isNamed n)
def catGo : List Tab → List Tab → Int
 | _, [] => 0
 | bs, t :: l => if tabP t = 0 then (if (findP bs t.n).isSome then 15 else catGo (bs ++ [t]) l) else tabP t
def catP (l : List Tab) : Int := if 8 < l.length then 3 else catGo [] l
structure Scp where
 t : List UInt8
 j : List UInt8
 w : Nat
 c : List Clm
def scopeP (t j : List UInt8) (l : List Tab) : Option Scp :=
 match findP l t with
 | none => none
 | some a => if j = [] then some ⟨t, [], a.c.length, a.c⟩ else match findP l j with
  | none => none
  | some b => some ⟨t, j, a.c.length, a.c ++ b.c⟩
def tableAt (s : Scp) (p : Nat) : List UInt8 := if p < s.w then s.t else s.j
def nameAt (s : Scp) (p : Nat) : List UInt8 := (s.c[p]?.map Clm.n).getD []
def kindAt (s : Scp) (p : Nat) : Nat := (s.c[p]?.map Clm.k).getD 0
def meantP (s : Scp) (t : List UInt8) (p : Nat) : Bool :=
 if (Lib.cut t [46]).2.2 = false then nameAt s p == t else (nameAt s p == (Lib.cut t [46]).2.1 && tableAt s p == (Lib.cut t [46]).1)
def leftP (s : Scp) (t : List UInt8) : List Nat := (List.range s.c.length).filter (meantP s t)
def oneP : List Nat → Except Int Nat
 | [p] => .ok p
 | _ => .error 14
def colR (s : Scp) (t : List UInt8) : Except Int Nat := oneP (leftP s t)
def joinsP (s : Scp) (a b : Int) : Bool :=
 if a < 0 ∨ (s.w : Int) ≤ a ∨ b < 0 ∨ (s.c.length : Int) - s.w ≤ b then false else kindAt s a.toNat == kindAt s (s.w + b.toNat)
def joinR (s : Scp) (a b : List UInt8) : Except Int (Int × Int) :=
 match colR s a with
 | .error e => .error e
 | .ok x => match colR s b with
  | .error e => .error e
  | .ok y => if joinsP s (min x y : Nat) ((max x y : Nat) - (s.w : Int)) then .ok (((min x y : Nat) : Int), ((max x y : Nat) - (s.w : Int))) else .error 5
def stepR (s : Scp) (x : Stp) : Except Int Stp :=
 if x.k = 6 then (match colR s x.t with
  | .error e => .error e
  | .ok p => .ok ⟨6, [], p⟩) else .ok x
def exprR (s : Scp) : List Stp → Except Int (List Stp)
 | [] => .ok []
 | x :: l => match stepR s x with
  | .error e => .error e
  | .ok y => match exprR s l with
   | .error e => .error e
   | .ok m => .ok (y :: m)
def whereE (s : Scp) (l : List Stp) : Int := if (kindP l s.c).2 = 0 ∧ (kindP l s.c).1 ≠ 1 ∧ (kindP l s.c).1 ≠ 0 then 5 else (kindP l s.c).2
def whereR (s : Scp) (l : List Stp) : Except Int (List Stp) :=
 if l = [] then .ok [] else match exprR s l with
  | .error e => .error e
  | .ok m => if whereE s m = 0 then .ok m else .error (whereE s m)
def groupGo (s : Scp) : List Int → List (List UInt8) → Except Int (List Int)
 | acc, [] => .ok acc
 | acc, t :: l => match colR s t with
  | .error e => .error e
  | .ok p => if acc.contains (p : Int) then .error 15 else groupGo s (acc ++ [(p : Int)]) l
def isGroupedP (n : Nat) (l : List Itm) : Bool := decide (0 < n) || l.any (fun x => decide (x.g ≠ 0))
def isColI (x : Itm) : Bool := decide (x.g = 0) && (decide (x.e.length = 1) && decide (((x.e[0]?).map Stp.k).getD 0 = 6))
def firstN (x : Itm) : Int := ((x.e[0]?).map Stp.n).getD 0
def ofGroup (x : Itm) (g : List Int) : Bool := isColI x && g.contains (firstN x)
def itemE (s : Scp) (x : Itm) (gr : Bool) (g : List Int) : Int :=
 if 5 ≤ x.g ∨ (x.g = 1 ∧ 0 < x.e.length) then 13 else if x.g = 1 then 0
 else if (kindP x.e s.c).2 ≠ 0 then (kindP x.e s.c).2
 else if x.g = 2 ∧ (kindP x.e s.c).1 ≠ 2 ∧ (kindP x.e s.c).1 ≠ 0 then 5
 else if x.g = 0 ∧ gr = true ∧ ofGroup x g = false then 14 else 0
def itemR (s : Scp) (x : Itm) : Except Int Itm :=
 if x.g = 1 then .ok ⟨1, []⟩ else match exprR s x.e with
  | .error e => .error e
  | .ok m => .ok ⟨x.g, m⟩
def itemsGo (s : Scp) (gr : Bool) (g : List Int) : List Itm → Except Int (List Itm)
 | [] => .ok []
 | x :: l => match itemR s x with
  | .error e => .error e
  | .ok y => if itemE s y gr g = 0 then (match itemsGo s gr g l with
   | .error e => .error e
   | .ok m => .ok (y :: m)) else .error (itemE s y gr g)
def allP (s : Scp) : List Itm := (List.range s.c.length).map fun (i : Nat) => ⟨0, [⟨6, [], (i : Int)⟩]⟩
def itemsR (s : Scp) (gr : Bool) (g : List Int) (l : List Itm) : Except Int (List Itm) :=
 if l = [] then (if 8 < s.c.length then .error 3 else .ok (allP s)) else itemsGo s gr g l
def nameI (s : Scp) (x : Itm) (i : Nat) : List UInt8 := if isColI x then nameAt s (firstN x).toNat else 99 :: itoa ((i : Int) + 1)
def kindI (s : Scp) (x : Itm) : Nat := if x.g = 1 ∨ x.g = 2 then 2 else (kindP x.e s.c).1
def namesGo (s : Scp) : Nat → List Itm → List (List UInt8)
 | _, [] => []
 | i, x :: l => nameI s x i :: namesGo s (i + 1) l
structure Bnd where
 t : List UInt8
 j : List UInt8
 d : Int
 a : Int
 b : Int
 w : List Stp
 g : List Int
 i : List Itm
 r : Bool
 n : List (List UInt8)
 k : List Nat
def noBnd : Bnd := ⟨[], [], 0, 0, 0, [], [], [], false, [], []⟩
def joinB (s : Scp) (q : Qry) : Except Int (Int × Int × Int) :=
 if q.j = [] then .ok (0, 0, 0) else match joinR s q.a q.b with
  | .error e => .error e
  | .ok (x, y) => .ok (s.w, x, y)
def resolveS (s : Scp) (q : Qry) : Except Int Bnd :=
 match joinB s q with
 | .error e => .error e
 | .ok (d, a, b) => match whereR s q.w with
  | .error e => .error e
  | .ok w => match groupGo s [] q.g with
   | .error e => .error e
   | .ok g => match itemsR s (isGroupedP q.g.length q.i) g q.i with
    | .error e => .error e
    | .ok i => .ok ⟨q.t, q.j, d, a, b, w, g, i, isGroupedP q.g.length q.i, namesGo s 0 i, i.map (kindI s)⟩
def resolveP (q : Qry) (l : List Tab) : Except Int Bnd :=
 match scopeP q.t q.j l with
 | none => .error 14
 | some s => resolveS s q
def bindP (q : Qry) (l : List Tab) : Except Int Bnd := if checkQ q ≠ 0 then .error (checkQ q) else if catP l ≠ 0 then .error (catP l) else resolveP q l
open Go.RowKit Go.Lib
def rJoinB (s : Scp) (b : Bnd) : Bool := if b.j = [] then (decide (b.d = 0) && (decide (b.a = 0) && decide (b.b = 0))) else (decide (b.j ≠ b.t) && (decide (b.d = (s.w : Int)) && joinsP s b.a b.b))
def rWhereB (s : Scp) (b : Bnd) : Bool := decide (b.w.length = 0) || decide (whereE s b.w = 0)
def grpGo (n : Nat) : List Int → List Int → Bool
 | _, [] => true
 | acc, p :: l => if p < 0 ∨ (n : Int) ≤ p ∨ acc.contains p = true then false else grpGo n (acc ++ [p]) l
def rGroupB (s : Scp) (b : Bnd) : Bool := if 8 < b.g.length then false else grpGo s.c.length [] b.g
def rItemsB (s : Scp) (b : Bnd) : Bool := if b.i.length = 0 ∨ 8 < b.i.length ∨ b.r ≠ isGroupedP b.g.length b.i then false else b.i.all (fun x => decide (itemE s x b.r b.g = 0))
def rAnswerB (s : Scp) (b : Bnd) : Bool := decide (b.n = namesGo s 0 b.i) && decide (b.k = b.i.map (kindI s))
def rightBP (b : Bnd) (l : List Tab) : Bool := if catP l ≠ 0 then false else match scopeP b.t b.j l with
 | none => false
 | some s => rJoinB s b && (rWhereB s b && (rGroupB s b && (rItemsB s b && rAnswerB s b)))
theorem colR_lt {s : Scp} {t : List UInt8} {p : Nat} (h : colR s t = .ok p) : p < s.c.length := by
 unfold colR at h
 have hm : leftP s t = [p] := by
  unfold oneP at h
  split at h
  · cases h; assumption
  · cases h
 have : p ∈ leftP s t := by rw [hm]; exact List.mem_singleton.2 rfl
 unfold leftP at this
 exact List.mem_range.1 (List.mem_filter.1 this).1
theorem itemR_g {s : Scp} {x y : Itm} (h : itemR s x = .ok y) : y.g = x.g := by
 unfold itemR at h
 split at h
 · rename_i e; cases h; exact e.symm
 · split at h
   · cases h
   · cases h; rfl
theorem itemsGo_ok {s : Scp} {gr : Bool} {g : List Int} : ∀ (l i : List Itm), itemsGo s gr g l = .ok i → i.length = l.length ∧ (i.all fun x => decide (itemE s x gr g = 0)) = true ∧ (i.any fun x => decide (x.g ≠ 0)) = l.any fun x => decide (x.g ≠ 0)
 | [], i, h => by
  unfold itemsGo at h
  cases h
  exact ⟨rfl, rfl, rfl⟩
 | x :: l, i, h => by
  unfold itemsGo at h
  split at h
  · cases h
  · rename_i y hy
    split at h
    · rename_i hc
      split at h
      · cases h
      · rename_i m hm
        obtain ⟨h1, h2, h3⟩ := itemsGo_ok l m hm
        cases h
        refine ⟨by simp [h1], by rw [List.all_cons, h2, decide_eq_true hc]; rfl, ?_⟩
        rw [List.any_cons, List.any_cons, h3, itemR_g hy]
    · cases h
theorem tab_in : ∀ (l bs : List Tab), catGo bs l = 0 → ∀ t ∈ l, tabP t = 0
 | [], _, _, t, ht => by simp at ht
 | a :: l, bs, h, t, ht => by
  unfold catGo at h
  split at h
  · rename_i h0
    split at h
    · exact absurd h (by decide)
    · rcases List.mem_cons.1 ht with rfl | ht
      · exact h0
      · exact tab_in l _ h t ht
  · rename_i h0; exact absurd h h0
theorem cat_in {l : List Tab} (h : catP l = 0) : l.length ≤ 8 ∧ ∀ t ∈ l, tabP t = 0 := by
 unfold catP at h
 split at h
 · exact absurd h (by decide)
 · exact ⟨by omega, tab_in l [] h⟩
theorem tab_cols {t : Tab} (h : tabP t = 0) : nameP t.n = 0 ∧ 0 < t.c.length ∧ t.c.length ≤ 8 ∧ colsGo [] t.c = 0 := by
 unfold tabP at h
 split at h
 · rename_i h0
   unfold colsP at h
   split at h
   · exact absurd h (by decide)
   · exact ⟨h0, by omega, by omega, h⟩
 · rename_i h0; exact absurd h h0
theorem find_in {l : List Tab} {n : List UInt8} {t : Tab} (h : findP l n = some t) : t ∈ l ∧ t.n = n := by
 unfold findP at h
 have h1 := List.find?_some h
 unfold isNamed at h1
 exact ⟨List.mem_of_find?_eq_some h, by simpa using h1⟩
theorem scope_small {t j : List UInt8} {l : List Tab} {s : Scp} (hc : catP l = 0) (h : scopeP t j l = some s) : s.t = t ∧ s.j = j ∧ 0 < s.c.length ∧ s.c.length ≤ 16 ∧ s.w ≤ s.c.length := by
 unfold scopeP at h
 split at h
 · cases h
 · rename_i a ha
   obtain ⟨ha1, ha2⟩ := find_in ha
   obtain ⟨_, h1, h2, _⟩ := tab_cols ((cat_in hc).2 a ha1)
   split at h
   · rename_i hj
     cases h
     exact ⟨rfl, hj.symm, h1, by show a.c.length ≤ 16; omega, Nat.le_refl _⟩
   · split at h
     · cases h
     · rename_i b hb
       obtain ⟨hb1, hb2⟩ := find_in hb
       obtain ⟨_, h3, h4, _⟩ := tab_cols ((cat_in hc).2 b hb1)
       cases h
       exact ⟨rfl, rfl, by show 0 < (a.c ++ b.c).length; rw [List.length_append]; omega, by show (a.c ++ b.c).length ≤ 16; rw [List.length_append]; omega, by show a.c.length ≤ (a.c ++ b.c).length; rw [List.length_append]; omega⟩
theorem allP_len (s : Scp) : (allP s).length = s.c.length := by simp [allP]
end Go.Proofs.YtfifphfihdhlaaaGreatDoor.Bd
