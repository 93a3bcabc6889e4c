/- A query whose columns have their tables ahead is bound as the one without: pure. -/
import Derived.Test.YtfifphfihdhlaaaGreatDoorCaCb
import Derived.Lib.MapLaws
import Derived.Lib.ValidLaws
set_option maxRecDepth 100000
set_option maxHeartbeats 32000000
namespace Go.Proofs.YtfifphfihdhlaaaGreatDoor.Bd
open Go.RowKit Go.Lib
set_option linter.unusedVariables false
set_option linter.unusedSimpArgs false
theorem index_at : ∀ (n c : List UInt8), (46 : UInt8) ∉ n → Lib.index (n ++ 46 :: c) [46] = (n.length : Int)
 | [], c, _ => by
  show Lib.index (46 :: c) [46] = _
  unfold Lib.index
  rw [if_pos (by simp [List.isPrefixOf])]
  rfl
 | x :: n, c, h => by
  have hx : ¬ (46 : UInt8) = x := fun e => h (by rw [e]; exact List.mem_cons_self ..)
  show Lib.index (x :: (n ++ 46 :: c)) [46] = _
  unfold Lib.index
  rw [if_neg (by simp [List.isPrefixOf, hx]), index_at n c (fun h2 => h (List.mem_cons_of_mem _ h2)), if_neg (by simp)]
  simp
theorem index_no : ∀ (n : List UInt8), (46 : UInt8) ∉ n → Lib.index n [46] = -1
 | [], _ => rfl
 | x :: n, h => by
  have hx : ¬ (46 : UInt8) = x := fun e => h (by rw [e]; exact List.mem_cons_self ..)
  unfold Lib.index
  rw [if_neg (by simp [List.isPrefixOf, hx]), index_no n (fun h2 => h (List.mem_cons_of_mem _ h2)), if_pos (by simp)]
theorem cut_at (n c : List UInt8) (h : (46 : UInt8) ∉ n) : Lib.cut (n ++ 46 :: c) [46] = (n, c, true) := by
 unfold Lib.cut
 rw [index_at n c h, if_pos (by omega), show ((n.length : Int)).toNat = n.length by omega]
 simp
theorem cut_no (n : List UInt8) (h : (46 : UInt8) ∉ n) : Lib.cut n [46] = (n, [], false) := by
 unfold Lib.cut
 rw [index_no n h, if_neg (by omega)]
theorem high_bytes (r : Int) (h : 128 ≤ r) : ∀ x ∈ Lib.encodeRune r, x ≠ 46 := by
 intro x hx e
 unfold Lib.encodeRune at hx
 obtain ⟨y, hy, he⟩ := List.mem_map.1 hx
 have hb := Lib.encodeRuneZ_byte r y hy
 have hge : 128 ≤ y := by
  unfold Lib.encodeRuneZ at hy
  rw [if_neg (by omega)] at hy
  split at hy
  · simp at hy; omega
  split at hy
  · simp at hy; omega
  split at hy
  · simp at hy; omega
  · simp at hy; omega
 rw [e] at he
 have := congrArg UInt8.toNat he
 rw [Nat.toUInt8_eq, UInt8.toNat_ofNat'] at this
 simp at this
 omega
theorem nameL_all : ∀ (b : Bool) (l : List Let), nameL b l = true → ∀ x ∈ l, isLetP x.1 = true ∨ isDigP x.1 = true
 | _, [], _, x, hx => by cases hx
 | b, y :: l, h, x, hx => by
  rw [nameL_cons] at h
  split at h
  · rename_i h1
    rcases List.mem_cons.1 hx with rfl | hx
    · simp only [Bool.or_eq_true, Bool.and_eq_true] at h1
      rcases h1 with h1 | h1
      · exact .inl h1
      · exact .inr h1.2
    · exact nameL_all false l h x hx
  · cases h
theorem dotless : ∀ (n : Nat) (l : List UInt8), l.length ≤ n → Lib.validD l = true → (∀ x ∈ lets l, isLetP x.1 = true ∨ isDigP x.1 = true) → (46 : UInt8) ∉ l
 | n, [], _, _, _ => by simp
 | 0, b :: l, h, _, _ => by simp at h
 | n + 1, b :: l, h, hv, ha => by
  have hne : b :: l ≠ [] := by simp
  rw [Lib.validD_step _ hne] at hv
  by_cases hb : (decodeL (b :: l)).1 = 65533 ∧ (decodeL (b :: l)).2 = 1
  · rw [if_pos hb] at hv; cases hv
  rw [if_neg hb] at hv
  have he := Lib.encode_decode (b :: l) hne hb
  have hw := Lib.decodeL_width (b :: l)
  rw [lets_cons _ hne] at ha
  have hrest := dotless n ((b :: l).drop (decodeL (b :: l)).2) (by rw [List.length_drop]; simp only [List.length_cons] at h ⊢; omega) hv fun x hx => ha x (List.mem_cons_of_mem _ hx)
  have hr := ha _ (List.mem_cons_self ..)
  intro hm
  rw [← List.take_append_drop (decodeL (b :: l)).2 (b :: l)] at hm
  rcases List.mem_append.1 hm with hm | hm
  · rw [← he] at hm
    obtain ⟨r, hrr⟩ : ∃ r, (decodeL (b :: l)).1 = r := ⟨_, rfl⟩
    rw [hrr] at hm hr
    have hlow : ¬ (128 : Int) ≤ (r : Int) := fun hge => high_bytes _ hge _ hm rfl
    unfold Lib.encodeRune at hm
    rw [Lib.encodeRuneZ_one (by omega) (by omega)] at hm
    simp only [List.map_cons, List.map_nil, List.mem_singleton] at hm
    have h2 := congrArg UInt8.toNat hm
    rw [Nat.toUInt8_eq, UInt8.toNat_ofNat'] at h2
    have h3 : r = 46 := by
     simp at h2
     omega
    rw [h3] at hr
    have h4 : isLetP 46 = true ∨ isDigP 46 = true := hr
    exact absurd h4 (by decide)
  · exact hrest hm
theorem name_parts0 {l : List UInt8} (h : isNameP l = true) : l ≠ [] ∧ Lib.validD l = true ∧ nameL true (lets l) = true := by
 unfold isNameP at h
 split at h
 · cases h
 split at h
 · cases h
 split at h
 · cases h
 split at h
 · cases h
 rename_i h1 h2 h3 h4
 exact ⟨h1, by simpa using h3, h⟩
theorem name_dot {l : List UInt8} (h : isNameP l = true) : (46 : UInt8) ∉ l := by
 obtain ⟨_, hv, hn⟩ := name_parts0 h
 exact dotless _ l (Nat.le_refl _) hv (nameL_all _ _ hn)
def hitT (t j s : List UInt8) (x : Tab) : Bool := x.c.any (fun c => c.n == s) && (x.n == t || x.n == j)
def fullP (t j : List UInt8) (l : List Tab) (s : List UInt8) : List UInt8 := if (46 : UInt8) ∈ s then s else match l.find? (hitT t j s) with
 | some x => x.n ++ 46 :: s
 | none => s
def fullS (t j : List UInt8) (l : List Tab) (x : Stp) : Stp := if x.k = 6 then ⟨6, fullP t j l x.t, x.n⟩ else x
def fullI (t j : List UInt8) (l : List Tab) (x : Itm) : Itm := ⟨x.g, x.e.map (fullS t j l)⟩
def fullQ (q : Qry) (l : List Tab) : Qry := ⟨q.i.map (fullI q.t q.j l), q.t, q.j, if q.j = [] then [] else fullP q.t q.j l q.a, if q.j = [] then [] else fullP q.t q.j l q.b, q.w.map (fullS q.t q.j l), q.g.map (fullP q.t q.j l)⟩
theorem full_col {t j : List UInt8} (ht : isNameP t = true) (hj : j = [] ∨ isNameP j = true) {l : List Tab} (hc : catP l = 0) {c : List UInt8} (h : isColP c = true) : isColP (fullP t j l c) = true := by
 unfold fullP
 split
 · exact h
 rename_i hd
 split
 · rename_i x hx
   have h1 := List.find?_some hx
   have h2 := List.mem_of_find?_eq_some hx
   have hn := (tab_cols ((cat_in hc).2 x h2)).1
   unfold hitT at h1
   simp only [Bool.and_eq_true, Bool.or_eq_true, beq_iff_eq] at h1
   have hx1 : isNameP x.n = true := by
    rcases h1.2 with e | e
    · rw [e]; exact ht
    · rcases hj with hj | hj
      · rw [e, hj] at hn; exact absurd hn (by decide)
      · rw [e]; exact hj
   unfold isColP
   rw [cut_at _ _ (name_dot hx1)]
   unfold isColP at h
   rw [cut_no _ hd] at h
   simp only [Bool.not_false, Bool.true_or, Bool.and_true] at h
   simp [hx1, h]
 · exact h
theorem find_app (a b : List Tab) (n : List UInt8) : findP (a ++ b) n = (findP a n).or (findP b n) := by unfold findP; rw [List.find?_append]
theorem uniq_tab : ∀ (l bs : List Tab), catGo bs l = 0 → ∀ x ∈ l, findP (bs ++ l) x.n = some x
 | [], _, _, x, hx => by simp at hx
 | a :: l, bs, h, x, hx => by
  unfold catGo at h
  split at h
  · split at h
    · exact absurd h (by decide)
    · rename_i hb
      rcases List.mem_cons.1 hx with rfl | hx
      · have hb : findP bs x.n = none := by
         cases e : findP bs x.n with
         | none => rfl
         | some y => rw [e] at hb; simp at hb
        rw [find_app, hb]
        simp [findP, isNamed]
      · have := uniq_tab l (bs ++ [a]) h x hx
        rwa [List.append_assoc] at this
  · rename_i h0; exact absurd h h0
theorem find_self {l : List Tab} (hc : catP l = 0) {x : Tab} (hx : x ∈ l) : findP l x.n = some x := by
 unfold catP at hc
 split at hc
 · exact absurd hc (by decide)
 · have := uniq_tab l [] hc x hx
   simpa using this
theorem full_same {t j : List UInt8} {l : List Tab} {s : Scp} (ht : isNameP t = true) (hj : j = [] ∨ isNameP j = true) (hjt : j ≠ t) (hc : catP l = 0) (hs : scopeP t j l = some s) {c : List UInt8} {p : Nat} (h : colR s c = .ok p) : colR s (fullP t j l c) = .ok p := by
 unfold fullP
 split
 · exact h
 rename_i hd
 split
 case h_2 => exact h
 rename_i x hx
 have h1 := List.find?_some hx
 have h2 := List.mem_of_find?_eq_some hx
 have hn := (tab_cols ((cat_in hc).2 x h2)).1
 have hfx := find_self hc h2
 unfold hitT at h1
 simp only [Bool.and_eq_true, Bool.or_eq_true, beq_iff_eq, List.any_eq_true] at h1
 obtain ⟨⟨y, hy, hyn⟩, hxn⟩ := h1
 have hx1 : isNameP x.n = true := by
  rcases hxn with e | e
  · rw [e]; exact ht
  · rcases hj with hj | hj
    · rw [e, hj] at hn; exact absurd hn (by decide)
    · rw [e]; exact hj
 have hm : leftP s c = [p] := by
  unfold colR oneP at h
  split at h
  · cases h; assumption
  · cases h
 obtain ⟨i, hi, hiy⟩ := List.getElem_of_mem hy
 have hq : ∃ q, q < s.c.length ∧ nameAt s q = c ∧ tableAt s q = x.n := by
  unfold scopeP at hs
  split at hs
  · cases hs
  rename_i a ha
  rcases hxn with e | e
  · have hax : a = x := by
     rw [e, ha] at hfx
     exact Option.some.inj hfx
    subst hax
    split at hs
    · cases hs
      exact ⟨i, hi, by simp [nameAt, hi, hiy, hyn], by unfold tableAt; rw [if_pos hi]; exact e.symm⟩
    · split at hs
      · cases hs
      · rename_i b hb
        cases hs
        refine ⟨i, by simp; omega, ?_, by unfold tableAt; rw [if_pos hi]; exact e.symm⟩
        unfold nameAt
        simp only
        rw [List.getElem?_append_left hi]
        simp [hi, hiy, hyn]
  · split at hs
    · rename_i hj0
      rw [e, hj0] at hn
      exact absurd hn (by decide)
    · split at hs
      · cases hs
      · rename_i b hb
        have hbx : b = x := by
         rw [e, hb] at hfx
         exact Option.some.inj hfx
        subst hbx
        cases hs
        refine ⟨a.c.length + i, by simp; omega, ?_, by unfold tableAt; rw [if_neg (by simp)]; exact e.symm⟩
        unfold nameAt
        simp only
        rw [List.getElem?_append_right (by omega), show a.c.length + i - a.c.length = i by omega]
        simp [hi, hiy, hyn]
 obtain ⟨q, hq1, hq2, hq3⟩ := hq
 have hmean : ∀ u, meantP s c u = (nameAt s u == c) := fun u => by
  unfold meantP
  rw [cut_no _ hd, if_pos rfl]
 have hqp : q = p := by
  have : q ∈ leftP s c := by
   unfold leftP
   exact List.mem_filter.2 ⟨List.mem_range.2 hq1, by rw [hmean, hq2]; simp⟩
  rw [hm] at this
  exact List.mem_singleton.1 this
 subst hqp
 have hl : leftP s (x.n ++ 46 :: c) = [q] := by
  have e : ∀ u, meantP s (x.n ++ 46 :: c) u = ((tableAt s u == x.n) && meantP s c u) := fun u => by
   rw [hmean]
   unfold meantP
   rw [cut_at _ _ (name_dot hx1), if_neg (by simp), Bool.and_comm]
  unfold leftP at hm ⊢
  rw [show meantP s (x.n ++ 46 :: c) = fun u => ((tableAt s u == x.n) && meantP s c u) from funext e, ← List.filter_filter, hm]
  simp [hq3]
 unfold colR
 rw [hl]
 rfl
theorem full_takes {t j : List UInt8} (ht : isNameP t = true) (hj : j = [] ∨ isNameP j = true) {l : List Tab} (hc : catP l = 0) (x : Stp) (h : (takesP x).2 = true) : takesP (fullS t j l x) = takesP x := by
 unfold fullS
 split
 · rename_i hk
   unfold takesP at h ⊢
   split at h
   · rename_i hr
     unfold rStepP at hr
     rw [if_neg (by omega), if_neg (by omega), if_neg (by omega), if_pos hk] at hr
     simp only [Bool.and_eq_true, decide_eq_true_eq] at hr
     have h2 : rStepP ⟨6, fullP t j l x.t, x.n⟩ = true := by
      unfold rStepP
      rw [if_neg (by simp), if_neg (by simp), if_neg (by simp), if_pos rfl]
      simp [hr.1, full_col ht hj hc hr.2]
     have h3 : rStepP x = true := by
      unfold rStepP
      rw [if_neg (by omega), if_neg (by omega), if_neg (by omega), if_pos hk]
      simp [hr.1, hr.2]
     rw [h2, h3, hk]
   · cases h
 · rfl
theorem full_right {t j : List UInt8} (ht : isNameP t = true) (hj : j = [] ∨ isNameP j = true) {l : List Tab} (hc : catP l = 0) : ∀ (e : List Stp) (v : Nat), rightL e v = true → rightL (e.map (fullS t j l)) v = true
 | [], v, h => h
 | x :: e, v, h => by
  unfold rightL at h
  split at h
  · cases h
  rename_i h1
  have h2 : (takesP x).2 = true := by
   cases hh : (takesP x).2 with
   | true => rfl
   | false => exact absurd (.inl hh) h1
  show rightL (fullS t j l x :: e.map (fullS t j l)) v = true
  unfold rightL
  rw [full_takes ht hj hc x h2, if_neg h1]
  exact full_right ht hj hc e _ h
theorem full_rightP {t j : List UInt8} (ht : isNameP t = true) (hj : j = [] ∨ isNameP j = true) {l : List Tab} (hc : catP l = 0) {e : List Stp} (h : rightP e = true) : rightP (e.map (fullS t j l)) = true := by
 unfold rightP at h ⊢
 rw [List.length_map]
 split at h
 · cases h
 rename_i h1
 rw [if_neg h1]
 exact full_right ht hj hc e 0 h
theorem full_check {q : Qry} {l : List Tab} (hc : catP l = 0) (h : queryOkP q = true) : queryOkP (fullQ q l) = true := by
 unfold queryOkP at h ⊢
 simp only [Bool.and_eq_true] at h ⊢
 obtain ⟨ht, hJ, hW, hI, hG⟩ := h
 have hj : q.j = [] ∨ isNameP q.j = true := by
  unfold joinOkP at hJ
  split at hJ
  · rename_i e; exact .inl e
  · simp only [Bool.and_eq_true] at hJ
    exact .inr hJ.1
 refine ⟨ht, ?_, ?_, ?_, ?_⟩
 · unfold joinOkP at hJ ⊢
   show (if q.j = [] then _ else _) = true
   by_cases e : q.j = []
   · rw [if_pos e]
     simp [fullQ, e]
   · rw [if_neg e] at hJ ⊢
     simp only [Bool.and_eq_true, decide_eq_true_eq] at hJ ⊢
     refine ⟨hJ.1, hJ.2.1, ?_, ?_⟩
     · show isColP (if q.j = [] then [] else fullP q.t q.j l q.a) = true
       rw [if_neg e]
       exact full_col ht hj hc hJ.2.2.1
     · show isColP (if q.j = [] then [] else fullP q.t q.j l q.b) = true
       rw [if_neg e]
       exact full_col ht hj hc hJ.2.2.2
 · unfold whereOkP at hW ⊢
   simp only [Bool.or_eq_true, decide_eq_true_eq] at hW ⊢
   rcases hW with hW | hW
   · exact .inl (by show q.w.map _ = []; rw [hW]; rfl)
   · exact .inr (full_rightP ht hj hc hW)
 · unfold itemsOkP at hI ⊢
   rw [show (fullQ q l).i.length = q.i.length from List.length_map ..]
   split at hI
   · cases hI
   rename_i h8
   rw [if_neg h8]
   rw [List.all_eq_true] at hI ⊢
   intro x hx
   obtain ⟨y, hy, rfl⟩ := List.mem_map.1 hx
   have := hI y hy
   unfold itemOkP at this ⊢
   show (if y.g = 1 then _ else _) = true
   by_cases e : y.g = 1
   · rw [if_pos e] at this ⊢
     have h0 : y.e = [] := by simpa using this
     show decide (y.e.map _ = []) = true
     rw [h0]
     rfl
   · rw [if_neg e] at this ⊢
     simp only [Bool.and_eq_true] at this ⊢
     exact ⟨this.1, full_rightP ht hj hc this.2⟩
 · unfold groupOkP at hG ⊢
   rw [show (fullQ q l).g.length = q.g.length from List.length_map ..]
   split at hG
   · cases hG
   rename_i h8
   split at hG
   · cases hG
   rename_i hall
   rw [if_neg h8, if_neg]
   · simp only [Bool.or_eq_true, decide_eq_true_eq] at hG ⊢
     rcases hG with hG | hG
     · exact .inl (by show q.g.map _ = []; rw [hG]; rfl)
     · exact .inr (by show q.i.map _ ≠ []; simpa using hG)
   · intro hf
     apply hall
     have h1 : (q.g.all isColP) = true := by simpa using hall
     have h2 : ((fullQ q l).g.all isColP) = true := by
      rw [List.all_eq_true] at h1 ⊢
      intro x hx
      obtain ⟨y, hy, rfl⟩ := List.mem_map.1 hx
      exact full_col ht hj hc (h1 y hy)
     rw [h2] at hf
     cases hf
theorem exprR_full {s : Scp} {f : List UInt8 → List UInt8} (hf : ∀ c p, colR s c = .ok p → colR s (f c) = .ok p) : ∀ (e m : List Stp), exprR s e = .ok m → exprR s (e.map fun x => if x.k = 6 then ⟨6, f x.t, x.n⟩ else x) = .ok m
 | [], m, h => h
 | x :: e, m, h => by
  unfold exprR at h
  split at h
  · cases h
  rename_i y hy
  split at h
  · cases h
  rename_i m' hm
  cases h
  rw [List.map_cons]
  unfold exprR
  have h1 : stepR s (if x.k = 6 then ⟨6, f x.t, x.n⟩ else x) = .ok y := by
   by_cases hk : x.k = 6
   · rw [if_pos hk]
     unfold stepR at hy ⊢
     rw [if_pos hk] at hy
     rw [if_pos rfl]
     split at hy
     · cases hy
     · rename_i p hp
       rw [hf _ _ hp]
       exact hy
   · rw [if_neg hk]; exact hy
  rw [h1, exprR_full hf e m' hm]
theorem groupGo_full {s : Scp} {f : List UInt8 → List UInt8} (hf : ∀ c p, colR s c = .ok p → colR s (f c) = .ok p) : ∀ (l : List (List UInt8)) (acc g : List Int), groupGo s acc l = .ok g → groupGo s acc (l.map f) = .ok g
 | [], acc, g, h => h
 | t :: l, acc, g, h => by
  rw [List.map_cons]
  unfold groupGo at h ⊢
  split at h
  · cases h
  rename_i p hp
  rw [hf _ _ hp]
  simp only
  split at h
  · cases h
  · rename_i hc
    rw [if_neg hc]
    exact groupGo_full hf l _ g h
theorem itemsGo_full {s : Scp} {f : List UInt8 → List UInt8} (hf : ∀ c p, colR s c = .ok p → colR s (f c) = .ok p) (gr : Bool) (g : List Int) : ∀ (l i : List Itm), itemsGo s gr g l = .ok i → itemsGo s gr g (l.map fun y => ⟨y.g, y.e.map fun x => if x.k = 6 then ⟨6, f x.t, x.n⟩ else x⟩) = .ok i
 | [], i, h => h
 | x :: l, i, h => by
  rw [List.map_cons]
  unfold itemsGo at h ⊢
  split at h
  · cases h
  rename_i y hy
  have h1 : itemR s ⟨x.g, x.e.map fun x => if x.k = 6 then ⟨6, f x.t, x.n⟩ else x⟩ = .ok y := by
   unfold itemR at hy ⊢
   simp only
   split at hy
   · rename_i e; rw [if_pos e]; exact hy
   · rename_i e
     rw [if_neg e]
     split at hy
     · cases hy
     · rename_i m hm
       rw [exprR_full hf _ _ hm]
       exact hy
  rw [h1]
  simp only
  split at h
  · rename_i h0
    rw [if_pos h0]
    split at h
    · cases h
    · rename_i m hm
      rw [itemsGo_full hf gr g l m hm]
      exact h
  · cases h
theorem any_full (f : List Stp → List Stp) (l : List Itm) : ((l.map fun y => (⟨y.g, f y.e⟩ : Itm)).any fun x => decide (x.g ≠ 0)) = l.any fun x => decide (x.g ≠ 0) := by
 rw [List.any_map]
 rfl
theorem full_bound {q : Qry} {l : List Tab} {b : Bnd} (h : bindP q l = .ok b) : bindP (fullQ q l) l = .ok b := by
 unfold bindP at h ⊢
 split at h
 · cases h
 rename_i hQ
 split at h
 · cases h
 rename_i hC
 have hC : catP l = 0 := by simpa using hC
 have hQ : queryOkP q = true := by
  unfold checkQ at hQ
  cases hq : queryOkP q with
  | true => rfl
  | false => rw [hq] at hQ; simp at hQ
 rw [if_neg (by unfold checkQ; rw [full_check hC hQ]; simp), if_neg (by simp [hC])]
 unfold queryOkP at hQ
 simp only [Bool.and_eq_true] at hQ
 obtain ⟨ht, hJ, -, -, -⟩ := hQ
 have hj : (q.j = [] ∨ isNameP q.j = true) ∧ q.j ≠ q.t := by
  unfold joinOkP at hJ
  split at hJ
  · rename_i e; exact ⟨.inl e, fun e2 => (name_parts0 ht).1 (e2.symm.trans e)⟩
  · simp only [Bool.and_eq_true, decide_eq_true_eq] at hJ
    exact ⟨.inr hJ.1, hJ.2.1⟩
 unfold resolveP at h ⊢
 split at h
 · cases h
 rename_i s hs
 have hf : ∀ c p, colR s c = .ok p → colR s (fullP q.t q.j l c) = .ok p := fun c p hp => full_same ht hj.1 hj.2 hC hs hp
 unfold resolveS at h
 split at h
 · cases h
 rename_i d x y hJB
 split at h
 · cases h
 rename_i m hW
 split at h
 · cases h
 rename_i g hG
 split at h
 · cases h
 rename_i i hI
 have r1 : joinB s (fullQ q l) = .ok (d, x, y) := by
  unfold joinB at hJB ⊢
  show (if q.j = [] then _ else _) = _
  by_cases e : q.j = []
  · rw [if_pos e] at hJB ⊢; exact hJB
  · rw [if_neg e] at hJB ⊢
    have ea : (fullQ q l).a = fullP q.t q.j l q.a := if_neg e
    have eb : (fullQ q l).b = fullP q.t q.j l q.b := if_neg e
    rw [ea, eb]
    unfold joinR at hJB ⊢
    cases ha : colR s q.a with
    | error z => rw [ha] at hJB; cases hJB
    | ok u =>
     cases hb : colR s q.b with
     | error z => rw [ha, hb] at hJB; cases hJB
     | ok v =>
      rw [ha, hb] at hJB
      rw [hf _ _ ha, hf _ _ hb]
      exact hJB
 have r2 : whereR s (fullQ q l).w = .ok m := by
  unfold whereR at hW ⊢
  show (if q.w.map (fullS q.t q.j l) = [] then _ else _) = _
  by_cases e : q.w = []
  · rw [if_pos e] at hW
    rw [if_pos (by rw [e]; rfl)]
    exact hW
  · rw [if_neg e] at hW
    rw [if_neg (by simpa using e)]
    split at hW
    · cases hW
    · rename_i m' hm'
      have := exprR_full hf _ _ hm'
      rw [show (fullQ q l).w = q.w.map fun x => if x.k = 6 then ⟨6, fullP q.t q.j l x.t, x.n⟩ else x from rfl, this]
      exact hW
 have r3 : groupGo s [] (fullQ q l).g = .ok g := groupGo_full hf _ _ _ hG
 have r4 : isGroupedP (fullQ q l).g.length (fullQ q l).i = isGroupedP q.g.length q.i := by
  unfold isGroupedP
  rw [show (fullQ q l).g.length = q.g.length from List.length_map .., show (fullQ q l).i = q.i.map fun y => (⟨y.g, y.e.map (fullS q.t q.j l)⟩ : Itm) from rfl, any_full]
 have r5 : itemsR s (isGroupedP q.g.length q.i) g (fullQ q l).i = .ok i := by
  unfold itemsR at hI ⊢
  show (if q.i.map _ = [] then _ else _) = _
  by_cases e : q.i = []
  · rw [if_pos e] at hI
    rw [if_pos (by rw [e]; rfl)]
    exact hI
  · rw [if_neg e] at hI
    rw [if_neg (by simpa using e)]
    exact itemsGo_full hf _ _ _ _ hI
 show (match scopeP q.t q.j l with | none => Except.error 14 | some s => resolveS s (fullQ q l)) = _
 rw [hs]
 simp only
 unfold resolveS
 rw [r1]
 simp only
 rw [r2]
 simp only
 rw [r3]
 simp only
 rw [r4, r5]
 exact h
open Go.RowKit Go.Lib
theorem name_len {l : List UInt8} (h : isNameP l = true) : l.length ≤ 64 := by
 unfold isNameP at h
 split at h
 · cases h
 split at h
 · cases h
 omega
theorem col_len {c : List UInt8} (h : isColP c = true) : c.length ≤ 129 := by
 unfold isColP at h
 by_cases hd : (46 : UInt8) ∈ c
 · obtain ⟨a, b, rfl, ha⟩ := List.eq_append_cons_of_mem hd
   rw [cut_at _ _ ha] at h
   simp only [Bool.not_true, Bool.false_or, Bool.and_eq_true] at h
   have := name_len h.1
   have := name_len h.2
   rw [List.length_append, List.length_cons]
   omega
 · rw [cut_no _ hd] at h
   simp only [Bool.not_false, Bool.true_or, Bool.and_true] at h
   have := name_len h
   omega
theorem full_len {t j : List UInt8} {l : List Tab} (hc : catP l = 0) {c : List UInt8} (h : isColP c = true) : (fullP t j l c).length ≤ 1000 := by
 have h1 := col_len h
 unfold fullP
 split
 · omega
 split
 · rename_i x hx
   have hn := (tab_cols ((cat_in hc).2 x (List.mem_of_find?_eq_some hx))).1
   have h2 : x.n.length ≤ 64 := by
    unfold nameP at hn
    split at hn
    · exact absurd hn (by decide)
    · omega
   rw [List.length_append, List.length_cons]
   omega
 · omega
theorem right_cols : ∀ (e : List Stp) (v : Nat), rightL e v = true → ∀ x ∈ e, x.k = 6 → isColP x.t = true
 | [], _, _, x, hx, _ => by simp at hx
 | y :: e, v, h, x, hx, hk => by
  unfold rightL at h
  split at h
  · cases h
  rename_i h1
  rcases List.mem_cons.1 hx with rfl | hx
  · have h2 : (takesP x).2 = true := by
     cases hh : (takesP x).2 with
     | true => rfl
     | false => exact absurd (.inl hh) h1
    unfold takesP at h2
    split at h2
    · rename_i hr
      unfold rStepP at hr
      rw [if_neg (by omega), if_neg (by omega), if_neg (by omega), if_pos hk] at hr
      simp only [Bool.and_eq_true, decide_eq_true_eq] at hr
      exact hr.2
    · cases h2
  · exact right_cols e _ h x hx hk
def SmallE (q : Qry) (l : List Tab) (e : List Stp) : Prop := e.length ≤ 64 ∧ ∀ x ∈ e, x.k = 6 → (fullP q.t q.j l x.t).length ≤ 140737488355328
theorem right_small {q : Qry} {l : List Tab} (hc : catP l = 0) {e : List Stp} (h : e = [] ∨ rightP e = true) : SmallE q l e := by
 rcases h with rfl | h
 · exact ⟨by simp, fun x hx => by simp at hx⟩
 · unfold rightP at h
   split at h
   · cases h
   rename_i h1
   exact ⟨by omega, fun x hx hk => by have := full_len (t := q.t) (j := q.j) hc (right_cols e 0 h x hx hk); omega⟩
theorem names_small {q : Qry} {l : List Tab} {b : Bnd} (h : bindP q l = .ok b) : SmallE q l q.w ∧ q.i.length ≤ 8 ∧ (∀ y ∈ q.i, SmallE q l y.e) ∧ q.g.length ≤ 8 ∧ (∀ g ∈ q.g, (fullP q.t q.j l g).length ≤ 140737488355328) ∧ (q.j ≠ [] → (fullP q.t q.j l q.a).length ≤ 140737488355328 ∧ (fullP q.t q.j l q.b).length ≤ 140737488355328) := by
 unfold bindP at h
 split at h
 · cases h
 rename_i hQ
 split at h
 · cases h
 rename_i hC
 have hC : catP l = 0 := by simpa using hC
 have hQ : queryOkP q = true := by
  unfold checkQ at hQ
  cases hq : queryOkP q with
  | true => rfl
  | false => rw [hq] at hQ; simp at hQ
 unfold queryOkP at hQ
 simp only [Bool.and_eq_true] at hQ
 obtain ⟨-, hJ, hW, hI, hG⟩ := hQ
 refine ⟨right_small hC ?_, ?_, ?_, ?_, ?_, ?_⟩
 · unfold whereOkP at hW
   simpa using hW
 · unfold itemsOkP at hI
   split at hI
   · cases hI
   · omega
 · intro y hy
   unfold itemsOkP at hI
   split at hI
   · cases hI
   · have := List.all_eq_true.1 hI y hy
     unfold itemOkP at this
     split at this
     · exact right_small hC (.inl (by simpa using this))
     · simp only [Bool.and_eq_true] at this
       exact right_small hC (.inr this.2)
 · unfold groupOkP at hG
   split at hG
   · cases hG
   · omega
 · intro g hg
   unfold groupOkP at hG
   split at hG
   · cases hG
   split at hG
   · cases hG
   · rename_i h2
     have h3 : (q.g.all isColP) = true := by simpa using h2
     have := full_len (t := q.t) (j := q.j) hC (List.all_eq_true.1 h3 g hg)
     omega
 · intro hj
   unfold joinOkP at hJ
   rw [if_neg hj] at hJ
   simp only [Bool.and_eq_true] at hJ
   have h1 := full_len (t := q.t) (j := q.j) hC hJ.2.2.1
   have h2 := full_len (t := q.t) (j := q.j) hC hJ.2.2.2
   omega
end Go.Proofs.YtfifphfihdhlaaaGreatDoor.Bd
