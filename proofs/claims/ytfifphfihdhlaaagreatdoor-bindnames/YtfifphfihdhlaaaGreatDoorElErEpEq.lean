/- A query whose columns have their tables ahead is bound as the one without: pure. -/
import Derived.Test.YtfifphfihdhlaaaGreatDoorCaCb
import Derived.Lib.MapLaws
import Derived.Lib.ValidLaws
import Derived.Test.YtfifphfihdhlaaaGreatDoorCeCfCg
import Derived.Test.YtfifphfihdhlaaaGreatDoorEkEaEe
import Derived.Test.YtfifphfihdhlaaaGreatDoorCuCv
set_option maxRecDepth 100000
set_option maxHeartbeats 32000000
namespace Go.Proofs.YtfifphfihdhlaaaGreatDoor.Bd
open Go.RowKit Go.Lib
set_option linter.unusedVariables false
set_option linter.unusedSimpArgs false
theorem index_at : ∀ (n c : List UInt8), (46 : UInt8) ∉ n → Lib.index (n ++ 46 :: c) [46] = (n.length : Int)
 | [], c, _ => by
  show Lib.index (46 :: c) [46] = _
  unfold Lib.index
  rw [if_pos (by simp [List.isPrefixOf])]
  rfl
 | x :: n, c, h => by
  have hx : ¬ (46 : UInt8) = x := fun e => h (by rw [e]; exact List.mem_cons_self ..)
  show Lib.index (x :: (n ++ 46 :: c)) [46] = _
  unfold Lib.index
  rw [if_neg (by simp [List.isPrefixOf, hx]), index_at n c (fun h2 => h (List.mem_cons_of_mem _ h2)), if_neg (by simp)]
  simp
theorem index_no : ∀ (n : List UInt8), (46 : UInt8) ∉ n → Lib.index n [46] = -1
 | [], _ => rfl
 | x :: n, h => by
  have hx : ¬ (46 : UInt8) = x := fun e => h (by rw [e]; exact List.mem_cons_self ..)
  unfold Lib.index
  rw [if_neg (by simp [List.isPrefixOf, hx]), index_no n (fun h2 => h (List.mem_cons_of_mem _ h2)), if_pos (by simp)]
theorem cut_at (n c : List UInt8) (h : (46 : UInt8) ∉ n) : Lib.cut (n ++ 46 :: c) [46] = (n, c, true) := by
 unfold Lib.cut
 rw [index_at n c h, if_pos (by omega), show ((n.length : Int)).toNat = n.length by omega]
 simp
theorem cut_no (n : List UInt8) (h : (46 : UInt8) ∉ n) : Lib.cut n [46] = (n, [], false) := by
 unfold Lib.cut
 rw [index_no n h, if_neg (by omega)]
theorem high_bytes (r : Int) (h : 128 ≤ r) : ∀ x ∈ Lib.encodeRune r, x ≠ 46 := by
 intro x hx e
 unfold Lib.encodeRune at hx
 obtain ⟨y, hy, he⟩ := List.mem_map.1 hx
 have hb := Lib.encodeRuneZ_byte r y hy
 have hge : 128 ≤ y := by
  unfold Lib.encodeRuneZ at hy
  rw [if_neg (by omega)] at hy
  split at hy
  · simp at hy; omega
  split at hy
  · simp at hy; omega
  split at hy
  · simp at hy; omega
  · simp at hy; omega
 rw [e] at he
 have := congrArg UInt8.toNat he
 rw [Nat.toUInt8_eq, UInt8.toNat_ofNat'] at this
 simp at this
 omega
theorem nameL_all : ∀ (b : Bool) (l : List Let), nameL b l = true → ∀ x ∈ l, isLetP x.1 = true ∨ isDigP x.1 = true
 | _, [], _, x, hx => by cases hx
 | b, y :: l, h, x, hx => by
  rw [nameL_cons] at h
  split at h
  · rename_i h1
    rcases List.mem_cons.1 hx with rfl | hx
    · simp only [Bool.or_eq_true, Bool.and_eq_true] at h1
      rcases h1 with h1 | h1
      · exact .inl h1
      · exact .inr h1.2
    · exact nameL_all false l h x hx
  · cases h
theorem dotless : ∀ (n : Nat) (l : List UInt8), l.length ≤ n → Lib.validD l = true → (∀ x ∈ lets l, isLetP x.1 = true ∨ isDigP x.1 = true) → (46 : UInt8) ∉ l
 | n, [], _, _, _ => by simp
 | 0, b :: l, h, _, _ => by simp at h
 | n + 1, b :: l, h, hv, ha => by
  have hne : b :: l ≠ [] := by simp
  rw [Lib.validD_step _ hne] at hv
  by_cases hb : (decodeL (b :: l)).1 = 65533 ∧ (decodeL (b :: l)).2 = 1
  · rw [if_pos hb] at hv; cases hv
  rw [if_neg hb] at hv
  have he := Lib.encode_decode (b :: l) hne hb
  have hw := Lib.decodeL_width (b :: l)
  rw [lets_cons _ hne] at ha
  have hrest := dotless n ((b :: l).drop (decodeL (b :: l)).2) (by rw [List.length_drop]; simp only [List.length_cons] at h ⊢; omega) hv fun x hx => ha x (List.mem_cons_of_mem _ hx)
  have hr := ha _ (List.mem_cons_self ..)
  intro hm
  rw [← List.take_append_drop (decodeL (b :: l)).2 (b :: l)] at hm
  rcases List.mem_append.1 hm with hm | hm
  · rw [← he] at hm
    obtain ⟨r, hrr⟩ := gen ((decodeL (b :: l)).1)
    rw [hrr] at hm hr
    have hlow : ¬ (128 : Int) ≤ (r : Int) := fun hge => high_bytes _ hge _ hm rfl
    unfold Lib.encodeRune at hm
    rw [Lib.encodeRuneZ_one (by omega) (by omega)] at hm
    simp only [List.map_cons, List.map_nil, List.mem_singleton] at hm
    have h2 := congrArg UInt8.toNat hm
    rw [Nat.toUInt8_eq, UInt8.toNat_ofNat'] at h2
    have h3 : r = 46 := by
     simp at h2
     omega
    rw [h3] at hr
    have h4 : isLetP 46 = true ∨ isDigP 46 = true := hr
    exact absurd h4 (by decide)
  · exact hrest hm
theorem name_parts0 {l : List UInt8} (h : isNameP l = true) : l ≠ [] ∧ Lib.validD l = true ∧ nameL true (lets l) = true := by
 unfold isNameP at h
 split at h
 · cases h
 split at h
 · cases h
 split at h
 · cases h
 split at h
 · cases h
 rename_i h1 h2 h3 h4
 exact ⟨h1, by simpa using h3, h⟩
theorem name_dot {l : List UInt8} (h : isNameP l = true) : (46 : UInt8) ∉ l := by
 obtain ⟨_, hv, hn⟩ := name_parts0 h
 exact dotless _ l (Nat.le_refl _) hv (nameL_all _ _ hn)
def hitT (t j s : List UInt8) (x : Tab) : Bool := x.c.any (fun c => c.n == s) && (x.n == t || x.n == j)
def fullP (t j : List UInt8) (l : List Tab) (s : List UInt8) : List UInt8 := if (46 : UInt8) ∈ s then s else match l.find? (hitT t j s) with
 | some x => x.n ++ 46 :: s
 | none => s
def fullS (t j : List UInt8) (l : List Tab) (x : Stp) : Stp := if x.k = 6 then ⟨6, fullP t j l x.t, x.n⟩ else x
def fullI (t j : List UInt8) (l : List Tab) (x : Itm) : Itm := ⟨x.g, x.e.map (fullS t j l)⟩
def fullQ (q : Qry) (l : List Tab) : Qry := ⟨q.i.map (fullI q.t q.j l), q.t, q.j, if q.j = [] then [] else fullP q.t q.j l q.a, if q.j = [] then [] else fullP q.t q.j l q.b, q.w.map (fullS q.t q.j l), q.g.map (fullP q.t q.j l)⟩
theorem full_col {t j : List UInt8} (ht : isNameP t = true) (hj : j = [] ∨ isNameP j = true) {l : List Tab} (hc : catP l = 0) {c : List UInt8} (h : isColP c = true) : isColP (fullP t j l c) = true := by
 unfold fullP
 split
 · exact h
 rename_i hd
 split
 · rename_i x hx
   have h1 := List.find?_some hx
   have h2 := List.mem_of_find?_eq_some hx
   have hn := (tab_cols ((cat_in hc).2 x h2)).1
   unfold hitT at h1
   simp only [Bool.and_eq_true, Bool.or_eq_true, beq_iff_eq] at h1
   have hx1 : isNameP x.n = true := by
    rcases h1.2 with e | e
    · rw [e]; exact ht
    · rcases hj with hj | hj
      · rw [e, hj] at hn; exact absurd hn (by decide)
      · rw [e]; exact hj
   unfold isColP
   rw [cut_at _ _ (name_dot hx1)]
   unfold isColP at h
   rw [cut_no _ hd] at h
   simp only [Bool.not_false, Bool.true_or, Bool.and_true] at h
   simp [hx1, h]
 · exact h
theorem find_app (a b : List Tab) (n : List UInt8) : findP (a ++ b) n = (findP a n).or (findP b n) := by unfold findP; rw [List.find?_append]
theorem uniq_tab : ∀ (l bs : List Tab), catGo bs l = 0 → ∀ x ∈ l, findP (bs ++ l) x.n = some x
 | [], _, _, x, hx => by simp at hx
 | a :: l, bs, h, x, hx => by
  unfold catGo at h
  split at h
  · split at h
    · exact absurd h (by decide)
    · rename_i hb
      rcases List.mem_cons.1 hx with rfl | hx
      · have hb : findP bs x.n = none := by
         cases e : findP bs x.n with
         | none => rfl
         | some y => rw [e] at hb; simp at hb
        rw [find_app, hb]
        simp [findP, isNamed]
      · have := uniq_tab l (bs ++ [a]) h x hx
        rwa [List.append_assoc] at this
  · rename_i h0; exact absurd h h0
theorem find_self {l : List Tab} (hc : catP l = 0) {x : Tab} (hx : x ∈ l) : findP l x.n = some x := by
 unfold catP at hc
 split at hc
 · exact absurd hc (by decide)
 · have := uniq_tab l [] hc x hx
   simpa using this
theorem full_same {t j : List UInt8} {l : List Tab} {s : Scp} (ht : isNameP t = true) (hj : j = [] ∨ isNameP j = true) (hjt : j ≠ t) (hc : catP l = 0) (hs : scopeP t j l = some s) {c : List UInt8} {p : Nat} (h : colR s c = .ok p) : colR s (fullP t j l c) = .ok p := by
 unfold fullP
 split
 · exact h
 rename_i hd
 split
 case h_2 => exact h
 rename_i x hx
 have h1 := List.find?_some hx
 have h2 := List.mem_of_find?_eq_some hx
 have hn := (tab_cols ((cat_in hc).2 x h2)).1
 have hfx := find_self hc h2
 unfold hitT at h1
 simp only [Bool.and_eq_true, Bool.or_eq_true, beq_iff_eq, List.any_eq_true] at h1
 obtain ⟨⟨y, hy, hyn⟩, hxn⟩ := h1
 have hx1 : isNameP x.n = true := by
  rcases hxn with e | e
  · rw [e]; exact ht
  · rcases hj with hj | hj
    · rw [e, hj] at hn; exact absurd hn (by decide)
    · rw [e]; exact hj
 have hm : leftP s c = [p] := by
  unfold colR oneP at h
  split at h
  · cases h; assumption
  · cases h
 obtain ⟨i, hi, hiy⟩ := List.getElem_of_mem hy
 have hq : ∃ q, q < s.c.length ∧ nameAt s q = c ∧ tableAt s q = x.n := by
  unfold scopeP at hs
  split at hs
  · cases hs
  rename_i a ha
  rcases hxn with e | e
  · have hax : a = x := by
     rw [e, ha] at hfx
     exact Option.some.inj hfx
    subst hax
    split at hs
    · cases hs
      exact ⟨i, hi, by simp [nameAt, hi, hiy, hyn], by unfold tableAt; rw [if_pos hi]; exact e.symm⟩
    · split at hs
      · cases hs
      · rename_i b hb
        cases hs
        refine ⟨i, by simp; omega, ?_, by unfold tableAt; rw [if_pos hi]; exact e.symm⟩
        unfold nameAt
        simp only
        rw [List.getElem?_append_left hi]
        simp [hi, hiy, hyn]
  · split at hs
    · rename_i hj0
      rw [e, hj0] at hn
      exact absurd hn (by decide)
    · split at hs
      · cases hs
      · rename_i b hb
        have hbx : b = x := by
         rw [e, hb] at hfx
         exact Option.some.inj hfx
        subst hbx
        cases hs
        refine ⟨a.c.length + i, by simp; omega, ?_, by unfold tableAt; rw [if_neg (by simp)]; exact e.symm⟩
        unfold nameAt
        simp only
        rw [List.getElem?_append_right (by omega), show a.c.length + i - a.c.length = i by omega]
        simp [hi, hiy, hyn]
 obtain ⟨q, hq1, hq2, hq3⟩ := hq
 have hmean : ∀ u, meantP s c u = (nameAt s u == c) := fun u => by
  unfold meantP
  rw [cut_no _ hd, if_pos rfl]
 have hqp : q = p := by
  have : q ∈ leftP s c := by
   unfold leftP
   exact List.mem_filter.2 ⟨List.mem_range.2 hq1, by rw [hmean, hq2]; simp⟩
  rw [hm] at this
  exact List.mem_singleton.1 this
 subst hqp
 have hl : leftP s (x.n ++ 46 :: c) = [q] := by
  have e : ∀ u, meantP s (x.n ++ 46 :: c) u = ((tableAt s u == x.n) && meantP s c u) := fun u => by
   rw [hmean]
   unfold meantP
   rw [cut_at _ _ (name_dot hx1), if_neg (by simp), Bool.and_comm]
  unfold leftP at hm ⊢
  rw [show meantP s (x.n ++ 46 :: c) = fun u => ((tableAt s u == x.n) && meantP s c u) from funext e, ← List.filter_filter, hm]
  simp [hq3]
 unfold colR
 rw [hl]
 rfl
theorem full_takes {t j : List UInt8} (ht : isNameP t = true) (hj : j = [] ∨ isNameP j = true) {l : List Tab} (hc : catP l = 0) (x : Stp) (h : (takesP x).2 = true) : takesP (fullS t j l x) = takesP x := by
 unfold fullS
 split
 · rename_i hk
   unfold takesP at h ⊢
   split at h
   · rename_i hr
     unfold rStepP at hr
     rw [if_neg (by omega), if_neg (by omega), if_neg (by omega), if_pos hk] at hr
     simp only [Bool.and_eq_true, decide_eq_true_eq] at hr
     have h2 : rStepP ⟨6, fullP t j l x.t, x.n⟩ = true := by
      unfold rStepP
      rw [if_neg (by simp), if_neg (by simp), if_neg (by simp), if_pos rfl]
      simp [hr.1, full_col ht hj hc hr.2]
     have h3 : rStepP x = true := by
      unfold rStepP
      rw [if_neg (by omega), if_neg (by omega), if_neg (by omega), if_pos hk]
      simp [hr.1, hr.2]
     rw [h2, h3, hk]
   · cases h
 · rfl
theorem full_right {t j : List UInt8} (ht : isNameP t = true) (hj : j = [] ∨ isNameP j = true) {l : List Tab} (hc : catP l = 0) : ∀ (e : List Stp) (v : Nat), rightL e v = true → rightL (e.map (fullS t j l)) v = true
 | [], v, h => h
 | x :: e, v, h => by
  unfold rightL at h
  split at h
  · cases h
  rename_i h1
  have h2 : (takesP x).2 = true := by
   cases hh : (takesP x).2 with
   | true => rfl
   | false => exact absurd (.inl hh) h1
  show rightL (fullS t j l x :: e.map (fullS t j l)) v = true
  unfold rightL
  rw [full_takes ht hj hc x h2, if_neg h1]
  exact full_right ht hj hc e _ h
theorem full_rightP {t j : List UInt8} (ht : isNameP t = true) (hj : j = [] ∨ isNameP j = true) {l : List Tab} (hc : catP l = 0) {e : List Stp} (h : rightP e = true) : rightP (e.map (fullS t j l)) = true := by
 unfold rightP at h ⊢
 rw [List.length_map]
 split at h
 · cases h
 rename_i h1
 rw [if_neg h1]
 exact full_right ht hj hc e 0 h
theorem full_check {q : Qry} {l : List Tab} (hc : catP l = 0) (h : queryOkP q = true) : queryOkP (fullQ q l) = true := by
 unfold queryOkP at h ⊢
 simp only [Bool.and_eq_true] at h ⊢
 obtain ⟨ht, hJ, hW, hI, hG⟩ := h
 have hj : q.j = [] ∨ isNameP q.j = true := by
  unfold joinOkP at hJ
  split at hJ
  · rename_i e; exact .inl e
  · simp only [Bool.and_eq_true] at hJ
    exact .inr hJ.1
 refine ⟨ht, ?_, ?_, ?_, ?_⟩
 · unfold joinOkP at hJ ⊢
   show (if q.j = [] then _ else _) = true
   by_cases e : q.j = []
   · rw [if_pos e]
     simp [fullQ, e]
   · rw [if_neg e] at hJ ⊢
     simp only [Bool.and_eq_true, decide_eq_true_eq] at hJ ⊢
     refine ⟨hJ.1, hJ.2.1, ?_, ?_⟩
     · show isColP (if q.j = [] then [] else fullP q.t q.j l q.a) = true
       rw [if_neg e]
       exact full_col ht hj hc hJ.2.2.1
     · show isColP (if q.j = [] then [] else fullP q.t q.j l q.b) = true
       rw [if_neg e]
       exact full_col ht hj hc hJ.2.2.2
 · unfold whereOkP at hW ⊢
   simp only [Bool.or_eq_true, decide_eq_true_eq] at hW ⊢
   rcases hW with hW | hW
   · exact .inl (by show q.w.map _ = []; rw [hW]; rfl)
   · exact .inr (full_rightP ht hj hc hW)
 · unfold itemsOkP at hI ⊢
   rw [show (fullQ q l).i.length = q.i.length from List.length_map ..]
   split at hI
   · cases hI
   rename_i h8
   rw [if_neg h8]
   rw [List.all_eq_true] at hI ⊢
   intro x hx
   obtain ⟨y, hy, rfl⟩ := List.mem_map.1 hx
   have := hI y hy
   unfold itemOkP at this ⊢
   show (if y.g = 1 then _ else _) = true
   by_cases e : y.g = 1
   · rw [if_pos e] at this ⊢
     have h0 : y.e = [] := by simpa using this
     show decide (y.e.map _ = []) = true
     rw [h0]
     rfl
   · rw [if_neg e] at this ⊢
     simp only [Bool.and_eq_true] at this ⊢
     exact ⟨this.1, full_rightP ht hj hc this.2⟩
 · unfold groupOkP at hG ⊢
   rw [show (fullQ q l).g.length = q.g.length from List.length_map ..]
   split at hG
   · cases hG
   rename_i h8
   split at hG
   · cases hG
   rename_i hall
   rw [if_neg h8, if_neg]
   · simp only [Bool.or_eq_true, decide_eq_true_eq] at hG ⊢
     rcases hG with hG | hG
     · exact .inl (by show q.g.map _ = []; rw [hG]; rfl)
     · exact .inr (by show q.i.map _ ≠ []; simpa using hG)
   · intro hf
     apply hall
     have h1 : (q.g.all isColP) = true := by simpa using hall
     have h2 : ((fullQ q l).g.all isColP) = true := by
      rw [List.all_eq_true] at h1 ⊢
      intro x hx
      obtain ⟨y, hy, rfl⟩ := List.mem_map.1 hx
      exact full_col ht hj hc (h1 y hy)
     rw [h2] at hf
     cases hf
theorem exprR_full {s : Scp} {f : List UInt8 → List UInt8} (hf : ∀ c p, colR s c = .ok p → colR s (f c) = .ok p) : ∀ (e m : List Stp), exprR s e = .ok m → exprR s (e.map fun x => if x.k = 6 then ⟨6, f x.t, x.n⟩ else x) = .ok m
 | [], m, h => h
 | x :: e, m, h => by
  unfold exprR at h
  split at h
  · cases h
  rename_i y hy
  split at h
  · cases h
  rename_i m' hm
  cases h
  rw [List.map_cons]
  unfold exprR
  have h1 : stepR s (if x.k = 6 then ⟨6, f x.t, x.n⟩ else x) = .ok y := by
   by_cases hk : x.k = 6
   · rw [if_pos hk]
     unfold stepR at hy ⊢
     rw [if_pos hk] at hy
     rw [if_pos rfl]
     split at hy
     · cases hy
     · rename_i p hp
       rw [hf _ _ hp]
       exact hy
   · rw [if_neg hk]; exact hy
  rw [h1, exprR_full hf e m' hm]
theorem groupGo_full {s : Scp} {f : List UInt8 → List UInt8} (hf : ∀ c p, colR s c = .ok p → colR s (f c) = .ok p) : ∀ (l : List (List UInt8)) (acc g : List Int), groupGo s acc l = .ok g → groupGo s acc (l.map f) = .ok g
 | [], acc, g, h => h
 | t :: l, acc, g, h => by
  rw [List.map_cons]
  unfold groupGo at h ⊢
  split at h
  · cases h
  rename_i p hp
  rw [hf _ _ hp]
  simp only
  split at h
  · cases h
  · rename_i hc
    rw [if_neg hc]
    exact groupGo_full hf l _ g h
theorem itemsGo_full {s : Scp} {f : List UInt8 → List UInt8} (hf : ∀ c p, colR s c = .ok p → colR s (f c) = .ok p) (gr : Bool) (g : List Int) : ∀ (l i : List Itm), itemsGo s gr g l = .ok i → itemsGo s gr g (l.map fun y => ⟨y.g, y.e.map fun x => if x.k = 6 then ⟨6, f x.t, x.n⟩ else x⟩) = .ok i
 | [], i, h => h
 | x :: l, i, h => by
  rw [List.map_cons]
  unfold itemsGo at h ⊢
  split at h
  · cases h
  rename_i y hy
  have h1 : itemR s ⟨x.g, x.e.map fun x => if x.k = 6 then ⟨6, f x.t, x.n⟩ else x⟩ = .ok y := by
   unfold itemR at hy ⊢
   simp only
   split at hy
   · rename_i e; rw [if_pos e]; exact hy
   · rename_i e
     rw [if_neg e]
     split at hy
     · cases hy
     · rename_i m hm
       rw [exprR_full hf _ _ hm]
       exact hy
  rw [h1]
  simp only
  split at h
  · rename_i h0
    rw [if_pos h0]
    split at h
    · cases h
    · rename_i m hm
      rw [itemsGo_full hf gr g l m hm]
      exact h
  · cases h
theorem any_full (f : List Stp → List Stp) (l : List Itm) : ((l.map fun y => (⟨y.g, f y.e⟩ : Itm)).any fun x => decide (x.g ≠ 0)) = l.any fun x => decide (x.g ≠ 0) := by
 rw [List.any_map]
 rfl
theorem full_bound {q : Qry} {l : List Tab} {b : Bnd} (h : bindP q l = .ok b) : bindP (fullQ q l) l = .ok b := by
 unfold bindP at h ⊢
 split at h
 · cases h
 rename_i hQ
 split at h
 · cases h
 rename_i hC
 have hC : catP l = 0 := by simpa using hC
 have hQ : queryOkP q = true := by
  unfold checkQ at hQ
  cases hq : queryOkP q with
  | true => rfl
  | false => rw [hq] at hQ; simp at hQ
 rw [if_neg (by unfold checkQ; rw [full_check hC hQ]; simp), if_neg (by simp [hC])]
 unfold queryOkP at hQ
 simp only [Bool.and_eq_true] at hQ
 obtain ⟨ht, hJ, -, -, -⟩ := hQ
 have hj : (q.j = [] ∨ isNameP q.j = true) ∧ q.j ≠ q.t := by
  unfold joinOkP at hJ
  split at hJ
  · rename_i e; exact ⟨.inl e, fun e2 => (name_parts0 ht).1 (e2.symm.trans e)⟩
  · simp only [Bool.and_eq_true, decide_eq_true_eq] at hJ
    exact ⟨.inr hJ.1, hJ.2.1⟩
 unfold resolveP at h ⊢
 split at h
 · cases h
 rename_i s hs
 have hf : ∀ c p, colR s c = .ok p → colR s (fullP q.t q.j l c) = .ok p := fun c p hp => full_same ht hj.1 hj.2 hC hs hp
 unfold resolveS at h
 split at h
 · cases h
 rename_i d x y hJB
 split at h
 · cases h
 rename_i m hW
 split at h
 · cases h
 rename_i g hG
 split at h
 · cases h
 rename_i i hI
 have r1 : joinB s (fullQ q l) = .ok (d, x, y) := by
  unfold joinB at hJB ⊢
  show (if q.j = [] then _ else _) = _
  by_cases e : q.j = []
  · rw [if_pos e] at hJB ⊢; exact hJB
  · rw [if_neg e] at hJB ⊢
    have ea : (fullQ q l).a = fullP q.t q.j l q.a := if_neg e
    have eb : (fullQ q l).b = fullP q.t q.j l q.b := if_neg e
    rw [ea, eb]
    unfold joinR at hJB ⊢
    cases ha : colR s q.a with
    | error z => rw [ha] at hJB; cases hJB
    | ok u =>
     cases hb : colR s q.b with
     | error z => rw [ha, hb] at hJB; cases hJB
     | ok v =>
      rw [ha, hb] at hJB
      rw [hf _ _ ha, hf _ _ hb]
      exact hJB
 have r2 : whereR s (fullQ q l).w = .ok m := by
  unfold whereR at hW ⊢
  show (if q.w.map (fullS q.t q.j l) = [] then _ else _) = _
  by_cases e : q.w = []
  · rw [if_pos e] at hW
    rw [if_pos (by rw [e]; rfl)]
    exact hW
  · rw [if_neg e] at hW
    rw [if_neg (by simpa using e)]
    split at hW
    · cases hW
    · rename_i m' hm'
      have := exprR_full hf _ _ hm'
      rw [show (fullQ q l).w = q.w.map fun x => if x.k = 6 then ⟨6, fullP q.t q.j l x.t, x.n⟩ else x from rfl, this]
      exact hW
 have r3 : groupGo s [] (fullQ q l).g = .ok g := groupGo_full hf _ _ _ hG
 have r4 : isGroupedP (fullQ q l).g.length (fullQ q l).i = isGroupedP q.g.length q.i := by
  unfold isGroupedP
  rw [show (fullQ q l).g.length = q.g.length from List.length_map .., show (fullQ q l).i = q.i.map fun y => (⟨y.g, y.e.map (fullS q.t q.j l)⟩ : Itm) from rfl, any_full]
 have r5 : itemsR s (isGroupedP q.g.length q.i) g (fullQ q l).i = .ok i := by
  unfold itemsR at hI ⊢
  show (if q.i.map _ = [] then _ else _) = _
  by_cases e : q.i = []
  · rw [if_pos e] at hI
    rw [if_pos (by rw [e]; rfl)]
    exact hI
  · rw [if_neg e] at hI
    rw [if_neg (by simpa using e)]
    exact itemsGo_full hf _ _ _ _ hI
 show (match scopeP q.t q.j l with | none => Except.error 14 | some s => resolveS s (fullQ q l)) = _
 rw [hs]
 simp only
 unfold resolveS
 rw [r1]
 simp only
 rw [r2]
 simp only
 rw [r3]
 simp only
 rw [r4, r5]
 exact h
open Go.RowKit Go.Lib
theorem name_len {l : List UInt8} (h : isNameP l = true) : l.length ≤ 64 := by
 unfold isNameP at h
 split at h
 · cases h
 split at h
 · cases h
 omega
theorem col_len {c : List UInt8} (h : isColP c = true) : c.length ≤ 129 := by
 unfold isColP at h
 by_cases hd : (46 : UInt8) ∈ c
 · obtain ⟨a, b, rfl, ha⟩ := List.eq_append_cons_of_mem hd
   rw [cut_at _ _ ha] at h
   simp only [Bool.not_true, Bool.false_or, Bool.and_eq_true] at h
   have := name_len h.1
   have := name_len h.2
   rw [List.length_append, List.length_cons]
   omega
 · rw [cut_no _ hd] at h
   simp only [Bool.not_false, Bool.true_or, Bool.and_true] at h
   have := name_len h
   omega
theorem full_len {t j : List UInt8} {l : List Tab} (hc : catP l = 0) {c : List UInt8} (h : isColP c = true) : (fullP t j l c).length ≤ 1000 := by
 have h1 := col_len h
 unfold fullP
 split
 · omega
 split
 · rename_i x hx
   have hn := (tab_cols ((cat_in hc).2 x (List.mem_of_find?_eq_some hx))).1
   have h2 : x.n.length ≤ 64 := by
    unfold nameP at hn
    split at hn
    · exact absurd hn (by decide)
    · omega
   rw [List.length_append, List.length_cons]
   omega
 · omega
theorem right_cols : ∀ (e : List Stp) (v : Nat), rightL e v = true → ∀ x ∈ e, x.k = 6 → isColP x.t = true
 | [], _, _, x, hx, _ => by simp at hx
 | y :: e, v, h, x, hx, hk => by
  unfold rightL at h
  split at h
  · cases h
  rename_i h1
  rcases List.mem_cons.1 hx with rfl | hx
  · have h2 : (takesP x).2 = true := by
     cases hh : (takesP x).2 with
     | true => rfl
     | false => exact absurd (.inl hh) h1
    unfold takesP at h2
    split at h2
    · rename_i hr
      unfold rStepP at hr
      rw [if_neg (by omega), if_neg (by omega), if_neg (by omega), if_pos hk] at hr
      simp only [Bool.and_eq_true, decide_eq_true_eq] at hr
      exact hr.2
    · cases h2
  · exact right_cols e _ h x hx hk
def SmallE (q : Qry) (l : List Tab) (e : List Stp) : Prop := e.length ≤ 64 ∧ ∀ x ∈ e, x.k = 6 → (fullP q.t q.j l x.t).length ≤ 140737488355328
theorem right_small {q : Qry} {l : List Tab} (hc : catP l = 0) {e : List Stp} (h : e = [] ∨ rightP e = true) : SmallE q l e := by
 rcases h with rfl | h
 · exact ⟨by simp, fun x hx => by simp at hx⟩
 · unfold rightP at h
   split at h
   · cases h
   rename_i h1
   exact ⟨by omega, fun x hx hk => by have := full_len (t := q.t) (j := q.j) hc (right_cols e 0 h x hx hk); omega⟩
theorem names_small {q : Qry} {l : List Tab} {b : Bnd} (h : bindP q l = .ok b) : SmallE q l q.w ∧ q.i.length ≤ 8 ∧ (∀ y ∈ q.i, SmallE q l y.e) ∧ q.g.length ≤ 8 ∧ (∀ g ∈ q.g, (fullP q.t q.j l g).length ≤ 140737488355328) ∧ (q.j ≠ [] → (fullP q.t q.j l q.a).length ≤ 140737488355328 ∧ (fullP q.t q.j l q.b).length ≤ 140737488355328) := by
 unfold bindP at h
 split at h
 · cases h
 rename_i hQ
 split at h
 · cases h
 rename_i hC
 have hC : catP l = 0 := by simpa using hC
 have hQ : queryOkP q = true := by
  unfold checkQ at hQ
  cases hq : queryOkP q with
  | true => rfl
  | false => rw [hq] at hQ; simp at hQ
 unfold queryOkP at hQ
 simp only [Bool.and_eq_true] at hQ
 obtain ⟨-, hJ, hW, hI, hG⟩ := hQ
 refine ⟨right_small hC ?_, ?_, ?_, ?_, ?_, ?_⟩
 · unfold whereOkP at hW
   simpa using hW
 · unfold itemsOkP at hI
   split at hI
   · cases hI
   · omega
 · intro y hy
   unfold itemsOkP at hI
   split at hI
   · cases hI
   · have := List.all_eq_true.1 hI y hy
     unfold itemOkP at this
     split at this
     · exact right_small hC (.inl (by simpa using this))
     · simp only [Bool.and_eq_true] at this
       exact right_small hC (.inr this.2)
 · unfold groupOkP at hG
   split at hG
   · cases hG
   · omega
 · intro g hg
   unfold groupOkP at hG
   split at hG
   · cases hG
   split at hG
   · cases hG
   · rename_i h2
     have h3 : (q.g.all isColP) = true := by simpa using h2
     have := full_len (t := q.t) (j := q.j) hC (List.all_eq_true.1 h3 g hg)
     omega
 · intro hj
   unfold joinOkP at hJ
   rw [if_neg hj] at hJ
   simp only [Bool.and_eq_true] at hJ
   have h1 := full_len (t := q.t) (j := q.j) hC hJ.2.2.1
   have h2 := full_len (t := q.t) (j := q.j) hC hJ.2.2.2
   omega
open Tryz
open Go.Shelf Go.RowKit Go.Lib Go.Sort
attribute [local go_sem ↓] Go.wp_at_zero Go.wp_at_succ
theorem hit_at {l : List Tab} {f : Tab → Bool} {i : Nat} (h : i < l.length) (h0 : (l.take i).find? f = none) (h1 : f l[i] = true) : l.find? f = some l[i] := by
 conv => lhs; rw [← List.take_append_drop i l]
 rw [List.find?_append, h0, List.drop_eq_getElem_cons h, List.find?_cons_of_pos h1]
 rfl
theorem hit_next {l : List Tab} {f : Tab → Bool} {i : Nat} (h : i < l.length) (h0 : (l.take i).find? f = none) (h1 : f l[i] = false) : (l.take (i + 1)).find? f = none := by
 rw [List.take_succ_eq_append_getElem h, List.find?_append, h0]
 simp [h1]
theorem anyC_next {l : List Clm} {f : Clm → Bool} {k : Nat} (h : k < l.length) (h0 : (l.take k).any f = false) (h1 : f l[k] = false) : (l.take (k + 1)).any f = false := by
 rw [List.take_succ_eq_append_getElem h, List.any_append, h0]
 simp [h1]
theorem anyC_at {l : List Clm} {f : Clm → Bool} {k : Nat} (h : k < l.length) (h1 : f l[k] = true) : l.any f = true := List.any_eq_true.2 ⟨_, List.getElem_mem h, h1⟩
theorem dot_join (n : List UInt8) (s : ByteArray) : (⟨n.toArray⟩ : ByteArray) ++ ⟨#[46]⟩ ++ s = ⟨(n ++ 46 :: s.data.toList).toArray⟩ := by
 apply ByteArray.ext
 simp [ByteArray.data_append]
theorem full_any (K : Nat → Prop) (q : Option Addr) (c : Nat) (l : List Tab) (t j : List UInt8) (q0 q3 q4 q5 q6 : Value) (sS : ByteArray) (w : World) (hs : sS.size ≤ 140737488355328) (h : ListIs rTab 3 64 K w (.slice q l.length c) l) (hK : ∀ b, K b → b < w.heap.size) :
 Calls prog 15 #[.string sS, .agg #[q0, .string ⟨t.toArray⟩, .string ⟨j.toArray⟩, q3, q4, q5, q6], .slice q l.length c] w fun e w' => e = .returned (.string ⟨(fullP t j l sS.data.toList).toArray⟩) ∧ Bl w w' := by
 obtain ⟨tq, htq⟩ := bya t
 obtain ⟨jq, hjq⟩ := bya j
 obtain ⟨N, hN⟩ := gen l.length
 have hbig : N ≤ 140737488355328 := by
  obtain ⟨_, _, -, ⟨hb, -⟩, -⟩ := h
  omega
 obtain ⟨W0, hW0⟩ := gen (w.alloc (.cells #[q0, .string tq, .string jq, q3, q4, q5, q6] 26))
 have hb0 : Bl w W0 := by rw [← hW0]; exact below_alloc _ _
 have hg0 : W0.heap[w.heap.size]? = some (.cells #[q0, .string tq, .string jq, q3, q4, q5, q6] 26 (0, 0)) := by rw [← hW0]; exact heap_alloc_new w _
 have hz0 : W0.heap.size = w.heap.size + 1 := by rw [← hW0]; simp
 have HBX : Hid (∀ V, Bl W0 V → V.heap[w.heap.size]? = some (.cells #[q0, .string tq, .string jq, q3, q4, q5, q6] 26 (0, 0)) ∧ Bl w V) := fun V hV => ⟨(hV.block _ (by omega)).trans hg0, hb0.trans (hV.mono (by omega))⟩
 have HL := hid h
 have HKK := hid hK
 have HN := hid hN
 have HTJ : Hid (tq.toList = t ∧ jq.toList = j ∧ sS.toList = sS.data.toList) := ⟨by rw [← htq]; simp [Lib.toList_data], by rw [← hjq]; simp [Lib.toList_data], by rw [Lib.toList_data]⟩
 obtain ⟨R, hR⟩ := gen (fullP t j l sS.data.toList)
 have HR : Hid ((if (46 : UInt8) ∈ sS.data.toList then sS.data.toList else match l.find? (hitT t j sS.data.toList) with
  | some x => x.n ++ 46 :: sS.data.toList
  | none => sS.data.toList) = R) := hR
 rw [htq, hjq, hN, hR]
 clear h hK htq hjq hN hb0 hg0 hz0 hR
 go_enter func15, ntmps15
 go_wp2_with (rw [hW0])
 have HBS : Hid (Bl w W0) := (HBX.out W0 (Below.refl _ _)).2
 clear hW0
 go_loopg [7] sS.size (fun gf s7 wx => ∃ i : Nat, s7 = .int .i64 i ∧ i ≤ sS.size ∧ sS.size ≤ i + gf ∧ wx = W0 ∧ Hid (∀ k (h : k < i), ∀ (h2 : k < sS.data.toList.length), sS.data.toList[k] ≠ 46))
 case atStart => exact ⟨0, rfl, by omega, by omega, rfl, fun k h => absurd h (by omega)⟩
 case round =>
  obtain ⟨i, rfl, hi1, hgf, rfl, HF⟩ := hrel
  by_cases hi : i < sS.size
  · obtain ⟨g', rfl⟩ : ∃ g', gk = g' + 1 := ⟨gk - 1, by omega⟩
    have z0 : (0 : Int) ≤ (i : Int) := by omega
    have z1 : (i : Int) < (sS.size : Int) := by omega
    have hil : i < sS.data.toList.length := by simpa using hi
    have hel : sS.data.toList[i] = sS[i] := by simp; rfl
    by_cases he : sS[i] = 46
    · have x1 : ((sS[i].toNat : Int) == 46) = true := by rw [he]; rfl
      have HE : Hid (R = sS.data.toList) := by
       have := HR.out
       rw [if_pos (by rw [← he, ← hel]; exact List.getElem_mem hil)] at this
       exact this.symm
      clear he hel HF
      go_wp2_with fail
      go_ret
      exact ⟨by rw [HE.out]; rfl, HBS.out⟩
    · have x1 : ((sS[i].toNat : Int) == 46) = false := bfn (fun e => he (UInt8.toNat_inj.1 (by have h46 : (46 : UInt8).toNat = 46 := rfl; omega)))
      have HF2 : Hid (∀ k (h : k < i + 1), ∀ (h2 : k < sS.data.toList.length), sS.data.toList[k] ≠ 46) := fun k hk h2 => by
       by_cases e : k = i
       · subst e; rw [hel]; exact he
       · exact HF.out k (by omega) h2
      clear he hel HF
      go_wp2_with fail
      go_roundg g'
      case measure => omega
      case rel => exact ⟨i + 1, by go_num, by omega, by omega, rfl, HF2⟩
  · have z1 : ¬ (i : Int) < (sS.size : Int) := by omega
    have HR2 : Hid ((match l.find? (hitT t j sS.data.toList) with
     | some x => x.n ++ 46 :: sS.data.toList
     | none => sS.data.toList) = R) := by
     have := HR.out
     rw [if_neg (fun hm => by
      obtain ⟨k, hk, e⟩ := List.getElem_of_mem hm
      exact HF.out k (by have h9 : sS.data.toList.length = sS.size := (by simp); omega) hk e)] at this
     exact this
    clear HF HR
    obtain ⟨V0, hV0⟩ : ∃ V, V = wr := ⟨_, rfl⟩
    subst hV0
    have HB0 : Hid (Bl V0 V0) := Below.refl _ _
    go_wp2_with fail
    go_loopg [25] N (fun gf s25 wx => ∃ i : Nat, s25 = .int .i64 i ∧ i ≤ N ∧ N ≤ i + gf ∧ Hid (Bl V0 wx) ∧ Hid ((l.take i).find? (hitT t j sS.data.toList) = none))
    case atStart => exact ⟨0, rfl, by omega, by omega, HB0, rfl⟩
    case round =>
     clear z1 hi1 hgf HB0
     obtain ⟨i, rfl, hi1, hgf, HB, HF⟩ := hrel
     by_cases hi : i < N
     · obtain ⟨g', rfl⟩ : ∃ g', gk = g' + 1 := ⟨gk - 1, by omega⟩
       obtain ⟨V1, hV1⟩ : ∃ V, V = wr := ⟨_, rfl⟩
       subst hV1
       have hil : i < l.length := by rw [HN.out]; exact hi
       obtain ⟨hgS, hbw⟩ := HBX.out V1 HB.out
       have hli := HL.out.mono mTab (fun _ h => h) (kept_of HKK.out hbw)
       rw [HN.out] at hli
       obtain ⟨b, o, hq, -, hc⟩ := tab_at hli (by omega)
       subst hq
       obtain ⟨pc, cc, pr, nr, cr, hrg, hcl, hn⟩ := hc i hil
       have hat := fun (h : hitT t j sS.data.toList l[i] = true) => hit_at hil HF.out h
       have hnx := fun (h : hitT t j sS.data.toList l[i] = false) => hit_next hil HF.out h
       obtain ⟨x, hx⟩ := gen (l[i])
       rw [hx] at hrg hcl hn hat hnx
       obtain ⟨M, hM⟩ := gen x.c.length
       obtain ⟨tS, htS⟩ := bya x.n
       rw [hM, htS] at hrg
       have HRG := hid hrg
       obtain ⟨WA, hWA, hth, V2, hV2, hgQ, hbV⟩ := box_any V1 56 #[.string ⟨#[]⟩, .slice none 0 0, .slice none 0 0] [.string tS, .slice pc M cc, .slice pr nr cr] rfl
       have HTH := hid hth
       have HV2 : Hid (WA.setCells V1.heap.size 0 (#[.string tS, .slice pc M cc, .slice pr nr cr] : Array Value).toList = V2) := hV2
       have d1 := cell_of_row (k := 1) (v := .slice pc M cc) hgQ rfl
       have HB2 : Hid (Bl V0 V2) := HB.out.trans (hbV.mono HB.out.size)
       have HAT : Hid (hitT t j sS.data.toList x = true → l.find? (hitT t j sS.data.toList) = some x) := hat
       have HNX := hid hnx
       have HX : Hid (x.c.length = M ∧ (⟨x.n.toArray⟩ : ByteArray) = tS ∧ tS.toList = x.n ∧ M * 24 ≤ 140737488355328 ∧ x.n.length ≤ 140737488355328) := ⟨hM, htS, by rw [← htS]; simp [Lib.toList_data], by
        obtain ⟨_, _, -, ⟨hb, -⟩, -⟩ := hcl
        rwa [hM] at hb, hn⟩
       have HCL : Hid (∀ V, Bl V2 V → ListIs rClm 2 24 K V (.slice pc M cc) x.c) := fun V hV => by
        have hbw2 : Bl V1 V := hbV.trans (hV.mono hbV.size)
        have hcl2 := hcl.mono mClm (fun _ h => h) (kept_of (K := K) (fun b hb => nlt (HKK.out b hb) hbw.size) hbw2)
        rwa [hM] at hcl2
       obtain ⟨T, hT⟩ := gen V1.heap.size
       have HGT : Hid (∀ V, Bl V2 V → V.heap[T]? = some (.cells #[.string tS, .slice pc M cc, .slice pr nr cr] 56 (0, 0))) := fun V hV => by rw [← hT]; exact (hV.block _ (gsi hgQ).1).trans hgQ
       rw [hT] at HTH HV2 d1
       have hM24 : M * 24 ≤ 140737488355328 := HX.out.2.2.2.1
       have z0 : (0 : Int) ≤ (i : Int) := by omega
       have z1 : (i : Int) < (N : Int) := by omega
       clear hil hgS hbw hli hc hrg hcl hn hat hnx hx hM htS hth hV2 hgQ hbV HB HF
       go_wp2_with (first | (refine wpList_load_mid rfl 56 _ rfl b (o + i * 3) rfl _ _ HRG.out underlying56 rfl sz_tab ?_) | (refine wpList_store_mid rfl 56 _ _ rfl T 0 #[.string tS, .slice pc M cc, .slice pr nr cr] rfl rfl HTH.out sz_tab (by simp [Value.oneCell']) ?_; rw [show WA.setCells T 0 (#[.string tS, .slice pc M cc, .slice pr nr cr] : Array Value).toList = V2 from HV2.out]))
       clear HTH HV2 hWA HRG d1
       go_loopg [32] M (fun gf s32 wx => ∃ k : Nat, s32 = .int .i64 k ∧ k ≤ M ∧ M ≤ k + gf ∧ Hid (Bl V2 wx) ∧ Hid (((x.c.take k).any (fun c => c.n == sS.data.toList) && (x.n == t || x.n == j)) = false))
       case atStart => exact ⟨0, rfl, by omega, by omega, Below.refl _ _, rfl⟩
       case round =>
        obtain ⟨k, rfl, hk1, hgf2, HB, HF⟩ := hrel
        by_cases hk : k < M
        · obtain ⟨g2, rfl⟩ : ∃ g2, gk = g2 + 1 := ⟨gk - 1, by omega⟩
          have hkl : k < x.c.length := by rw [HX.out.1]; exact hk
          obtain ⟨b2, o2, hq, -, hc⟩ := cell_list (HCL.out wr HB.out) (by omega)
          subst hq
          obtain ⟨cs, hrg, hcs, hcb⟩ := hc k hkl
          have hnxc := fun (h : (fun c : Clm => c.n == sS.data.toList) x.c[k] = false) (h0 : (x.c.take k).any (fun c => c.n == sS.data.toList) = false) => anyC_next hkl h0 h
          have hatc := fun (h : (fun c : Clm => c.n == sS.data.toList) x.c[k] = true) => anyC_at (f := fun c : Clm => c.n == sS.data.toList) hkl h
          obtain ⟨c, hcc⟩ := gen (x.c[k])
          rw [hcc] at hcs hcb hnxc hatc
          obtain ⟨cS, hcS⟩ := bya c.n
          rw [hcs, hcS] at hrg
          have HRC := hid hrg
          have ecn : cS.toList = c.n := by rw [← hcS]; simp [Lib.toList_data]
          obtain ⟨WA, hWA, hth, V3, hV3, hgQ, hbV⟩ := box_any wr 50 #[.string ⟨#[]⟩, .int .u8 0] [.string cS, .int .u8 (c.k : Int)] rfl
          have HTH := hid hth
          have HV3 : Hid (WA.setCells wr.heap.size 0 (#[.string cS, .int .u8 (c.k : Int)] : Array Value).toList = V3) := hV3
          have hb23 : Bl V2 V3 := HB.out.trans (hbV.mono HB.out.size)
          have HB23 := hid hb23
          have HB03 := hid (HB2.out.trans (hb23.mono HB2.out.size))
          obtain ⟨hgS, hbw⟩ := HBX.out V3 HB03.out
          have HBW := hid hbw
          have hgT := HGT.out V3 hb23
          have a0 := cell_of_row (k := 0) (v := .string cS) hgQ rfl
          have t0 := cell_of_row (k := 0) (v := .string tS) hgT rfl
          have q1 := cell_of_row (k := 1) (v := .string tq) hgS rfl
          have q2 := cell_of_row (k := 2) (v := .string jq) hgS rfl
          obtain ⟨A, hA⟩ := gen ((c.n == sS.data.toList))
          obtain ⟨B1, hB1⟩ := gen ((x.n == t))
          obtain ⟨B2, hB2⟩ := gen ((x.n == j))
          have f1 : (cS.toList == sS.toList) = A := by rw [ecn, HTJ.out.2.2]; exact hA
          have f2 : (tS.toList == tq.toList) = B1 := by rw [HX.out.2.2.1, HTJ.out.1]; exact hB1
          have f3 : (tS.toList == jq.toList) = B2 := by rw [HX.out.2.2.1, HTJ.out.2.1]; exact hB2
          have l1 : tS.size ≤ 140737488355328 := by have := HX.out.2.2.2.2; rw [← HX.out.2.1]; show x.n.toArray.size ≤ _; simpa using this
          have z2 : (0 : Int) ≤ (k : Int) := by omega
          have z3 : (k : Int) < (M : Int) := by omega
          have HHIT : Hid (A = true → (B1 || B2) = true → R = x.n ++ 46 :: sS.data.toList) := fun h1 h2 => by
           have hh : hitT t j sS.data.toList x = true := by
            unfold hitT
            rw [hatc (by rw [← h1]; exact hA), hB1, hB2, h2]
            rfl
           have := HR2.out
           rw [HAT.out hh] at this
           exact this.symm
          have HGO : Hid ((A && (B1 || B2)) = false → ((x.c.take (k + 1)).any (fun c => c.n == sS.data.toList) && (x.n == t || x.n == j)) = false) := fun h1 => by
           rw [hB1, hB2]
           cases hB : (B1 || B2) with
           | false => rw [Bool.and_false]
           | true =>
            rw [hB, Bool.and_true] at h1
            have h0 := HF.out
            rw [hB1, hB2, hB, Bool.and_true] at h0
            rw [hnxc (by rw [← h1]; exact hA) h0]
            rfl
          clear hkl hc hrg hcs hcb hnxc hatc hcc hcS ecn hth hV3 hgQ hbV hb23 hgS hbw hgT hA hB1 hB2 HB HF
          cases A with
          | false =>
           clear f2 f3 HHIT
           go_wp2_with (first | ((with_reducible (show wpList _ _ _ (Oper.mk _ (.load _ _) _ _ _ none :: _) _ _)); refine wpList_load_mid rfl 50 _ rfl b2 (o2 + k * 2) rfl _ _ HRC.out underlying50 rfl sz_clm ?_) | ((with_reducible (show wpList _ _ _ (Oper.mk _ (.store _ _ _) _ _ _ none :: _) _ _)); refine wpList_store_mid rfl 50 _ _ rfl wr.heap.size 0 #[.string cS, .int .u8 (c.k : Int)] rfl rfl HTH.out sz_clm (by simp [Value.oneCell']) ?_; rw [show WA.setCells wr.heap.size 0 (#[.string cS, .int .u8 (c.k : Int)] : Array Value).toList = V3 from HV3.out]))
           go_roundg g2
           case measure => omega
           case rel => exact ⟨k + 1, by go_num, by omega, by omega, HB23, HGO.out rfl⟩
          | true =>
           cases B1 with
           | true =>
            have HRR := hid (HHIT.out rfl rfl)
            clear f3 HGO HHIT
            go_wp2_with (first | ((with_reducible (show wpList _ _ _ (Oper.mk _ (.load _ _) _ _ _ none :: _) _ _)); refine wpList_load_mid rfl 50 _ rfl b2 (o2 + k * 2) rfl _ _ HRC.out underlying50 rfl sz_clm ?_) | ((with_reducible (show wpList _ _ _ (Oper.mk _ (.store _ _ _) _ _ _ none :: _) _ _)); refine wpList_store_mid rfl 50 _ _ rfl wr.heap.size 0 #[.string cS, .int .u8 (c.k : Int)] rfl rfl HTH.out sz_clm (by simp [Value.oneCell']) ?_; rw [show WA.setCells wr.heap.size 0 (#[.string cS, .int .u8 (c.k : Int)] : Array Value).toList = V3 from HV3.out]))
            go_ret
            exact ⟨by rw [HRR.out, ← dot_join, HX.out.2.1]; rfl, HBW.out⟩
           | false =>
            cases B2 with
            | true =>
             have HRR := hid (HHIT.out rfl rfl)
             clear HGO HHIT
             go_wp2_with (first | ((with_reducible (show wpList _ _ _ (Oper.mk _ (.load _ _) _ _ _ none :: _) _ _)); refine wpList_load_mid rfl 50 _ rfl b2 (o2 + k * 2) rfl _ _ HRC.out underlying50 rfl sz_clm ?_) | ((with_reducible (show wpList _ _ _ (Oper.mk _ (.store _ _ _) _ _ _ none :: _) _ _)); refine wpList_store_mid rfl 50 _ _ rfl wr.heap.size 0 #[.string cS, .int .u8 (c.k : Int)] rfl rfl HTH.out sz_clm (by simp [Value.oneCell']) ?_; rw [show WA.setCells wr.heap.size 0 (#[.string cS, .int .u8 (c.k : Int)] : Array Value).toList = V3 from HV3.out]))
             go_ret
             exact ⟨by rw [HRR.out, ← dot_join, HX.out.2.1]; rfl, HBW.out⟩
            | false =>
             clear HHIT
             go_wp2_with (first | ((with_reducible (show wpList _ _ _ (Oper.mk _ (.load _ _) _ _ _ none :: _) _ _)); refine wpList_load_mid rfl 50 _ rfl b2 (o2 + k * 2) rfl _ _ HRC.out underlying50 rfl sz_clm ?_) | ((with_reducible (show wpList _ _ _ (Oper.mk _ (.store _ _ _) _ _ _ none :: _) _ _)); refine wpList_store_mid rfl 50 _ _ rfl wr.heap.size 0 #[.string cS, .int .u8 (c.k : Int)] rfl rfl HTH.out sz_clm (by simp [Value.oneCell']) ?_; rw [show WA.setCells wr.heap.size 0 (#[.string cS, .int .u8 (c.k : Int)] : Array Value).toList = V3 from HV3.out]))
             go_roundg g2
             case measure => omega
             case rel => exact ⟨k + 1, by go_num, by omega, by omega, HB23, HGO.out rfl⟩
        · have z3 : ¬ (k : Int) < (M : Int) := by omega
          have HBE : Hid (Bl V0 wr) := HB2.out.trans (HB.out.mono HB2.out.size)
          have HFE : Hid ((l.take (i + 1)).find? (hitT t j sS.data.toList) = none) := by
           refine HNX.out ?_
           have := HF.out
           rw [List.take_of_length_le (by rw [HX.out.1]; omega)] at this
           exact this
          clear HB HF
          go_wp2_with fail
          go_roundg g'
          case measure => omega
          case rel => exact ⟨i + 1, by go_num, by omega, by omega, HBE, HFE⟩
     · have z1 : ¬ (i : Int) < (N : Int) := by omega
       have HE : Hid (R = sS.data.toList) := by
        have h0 := HF.out
        rw [List.take_of_length_le (by rw [HN.out]; omega)] at h0
        have := HR2.out
        rw [h0] at this
        exact this.symm
       have HBE := hid (HBX.out wr HB.out).2
       clear HF HB
       go_wp2_with fail
       go_ret
       exact ⟨by rw [HE.out]; rfl, HBE.out⟩
theorem info53 : ∃ i0, prog.info? 53 = some i0 ∧ i0.zero = some (.agg #[.int .u8 0, .string ⟨#[]⟩, .int .i64 0]) ∧ i0.size = 3 ∧ i0.bytes = 32 := by
 have h1 : (prog.info? 53).bind (·.zero) = some (.agg #[.int .u8 0, .string ⟨#[]⟩, .int .i64 0]) := by kernel_rfl
 have h2 : (prog.info? 53).map (fun i => (i.size, i.bytes)) = some (3, 32) := by kernel_rfl
 cases h : prog.info? 53 with
 | none => rw [h] at h2; cases h2
 | some i0 =>
  rw [h] at h1 h2
  have h3 := Option.some.inj h2
  exact ⟨i0, rfl, h1, (Prod.mk.inj h3).1, (Prod.mk.inj h3).2⟩
theorem sz_stp2 : (prog.info? 53).map (·.size) = some 3 := by kernel_rfl
theorem fStpW : Flat rStpW := ⟨fun _ _ _ _ _ _ h => h, fun K W cs x h u hu => by rw [h.1] at hu; simp at hu; rcases hu with rfl | rfl | rfl <;> rfl⟩
def StpE (B : Nat) (w' : World) (l : List Stp) (e : Ending) : Prop := ∃ p c, e = .returned (.slice p l.length c) ∧ ListIs rStpW 3 32 (From B w') w' (.slice p l.length c) l
theorem fsteps_any (K Ke : Nat → Prop) (q : Option Addr) (c : Nat) (l : List Tab) (t j : List UInt8) (q0 q3 q4 q5 q6 : Value) (pe : Option Addr) (ce : Nat) (e : List Stp) (w : World) (he : ListIs rStpW 3 32 Ke w (.slice pe e.length ce) e) (hKe : ∀ b, Ke b → b < w.heap.size) (h64 : e.length ≤ 64) (hsm : ∀ x ∈ e, x.k = 6 → (fullP t j l x.t).length ≤ 140737488355328) (h : ListIs rTab 3 64 K w (.slice q l.length c) l) (hK : ∀ b, K b → b < w.heap.size) :
 Calls prog 16 #[.slice pe e.length ce, .agg #[q0, .string ⟨t.toArray⟩, .string ⟨j.toArray⟩, q3, q4, q5, q6], .slice q l.length c] w fun x w' => StpE w.heap.size w' (e.map (fullS t j l)) x ∧ Bl w w' := by
 obtain ⟨tq, htq⟩ := bya t
 obtain ⟨jq, hjq⟩ := bya j
 obtain ⟨N, hN⟩ := gen l.length
 obtain ⟨M, hM⟩ := gen e.length
 obtain ⟨W0, hW0⟩ := gen (w.alloc (.cells #[q0, .string tq, .string jq, q3, q4, q5, q6] 26))
 have hb0 : Bl w W0 := by rw [← hW0]; exact below_alloc _ _
 have hg0 : W0.heap[w.heap.size]? = some (.cells #[q0, .string tq, .string jq, q3, q4, q5, q6] 26 (0, 0)) := by rw [← hW0]; exact heap_alloc_new w _
 have hz0 : W0.heap.size = w.heap.size + 1 := by rw [← hW0]; simp
 have HBX : Hid (∀ V, Bl W0 V → V.rangeAt w.heap.size 0 (#[q0, .string tq, .string jq, q3, q4, q5, q6] : Array Value).toList ∧ Bl w V) := fun V hV => ⟨rgz ((hV.block _ (by omega)).trans hg0), hb0.trans (hV.mono (by omega))⟩
 have CF : Hid (∀ V, Bl w V → ∀ (s : ByteArray), s.size ≤ 140737488355328 → Calls prog 15 #[.string s, .agg #[q0, .string tq, .string jq, q3, q4, q5, q6], .slice q N c] V fun e w' => e = .returned (.string ⟨(fullP t j l s.data.toList).toArray⟩) ∧ Bl V w') := fun V hV s hs => by
  have := full_any K q c l t j q0 q3 q4 q5 q6 s V hs (h.later mTab hK hV) (fun b hb => nlt (hK b hb) hV.size)
  rwa [htq, hjq, hN] at this
 have HLE : Hid (∀ V, Bl w V → ListIs rStpW 3 32 Ke V (.slice pe M ce) e) := fun V hV => by
  have := he.later mStpW hKe hV
  rwa [hM] at this
 have HMM : Hid (e.length = M) := hM
 have HSM := hid hsm
 have HZ : Hid (w.heap.size ≤ W0.heap.size) := hb0.size
 rw [hM] at h64
 rw [htq, hjq, hN, hM]
 clear he hKe hsm h hK htq hjq hN hM hb0 hg0 hz0
 obtain ⟨i53, hi53, hz53, hs53, hb53⟩ := info53
 go_enter func16, ntmps16
 go_wp2_with (rw [hW0])
 clear hW0
 go_loopg [7, 12] M (fun gf s7 s12 wx => ∃ (i c1 : Nat) (a1 : Option Addr), s7 = .slice a1 i c1 ∧ s12 = .int .i64 i ∧ i ≤ M ∧ M ≤ i + gf ∧ Hid (Bl W0 wx) ∧ Hid (OwnK (fun _ => False) rStpW 3 53 W0.heap.size wx (.slice a1 i c1) ((e.take i).map (fullS t j l))))
 case atStart => exact ⟨0, 0, none, rfl, rfl, by omega, by omega, Below.refl _ _, ⟨[], World.ownsRow_nil _ _ _ _, fun j hj => by simp at hj⟩⟩
 case round =>
  obtain ⟨i, c1, a1, rfl, rfl, hi1, hgf, HB, HO⟩ := hrel
  by_cases hi : i < M
  · obtain ⟨g', rfl⟩ : ∃ g', gk = g' + 1 := ⟨gk - 1, by omega⟩
    have hil : i < e.length := by rw [HMM.out]; exact hi
    obtain ⟨-, hbw⟩ := HBX.out wr HB.out
    obtain ⟨b, o, hq, -, hc⟩ := cell_list (HLE.out wr hbw) (by omega)
    subst hq
    obtain ⟨cs, hrg, hcs, hok⟩ := hc i hil
    have hnx : (e.take (i + 1)).map (fullS t j l) = (e.take i).map (fullS t j l) ++ [fullS t j l e[i]] := by rw [List.take_succ_eq_append_getElem hil, List.map_append]; rfl
    have hsx := HSM.out _ (List.getElem_mem hil)
    obtain ⟨x, hx⟩ := gen (e[i])
    rw [hx] at hcs hok hnx hsx
    have HNX := hid hnx
    obtain ⟨xS, hxS⟩ := bya x.t
    obtain ⟨kk, hkk⟩ : ∃ y : Int, (x.k : Int) = y := ⟨_, rfl⟩
    obtain ⟨nn, hnn⟩ : ∃ y : Int, x.n = y := ⟨_, rfl⟩
    rw [hcs, hxS, hkk, hnn] at hrg
    have HRC := hid hrg
    obtain ⟨WA, hWA, hth, V2, hV2, hgQ, hbV⟩ := box_any wr 53 #[.int .u8 0, .string ⟨#[]⟩, .int .i64 0] [.int .u8 kk, .string xS, .int .i64 nn] rfl
    have HTH := hid hth
    have HV2 : Hid (WA.setCells wr.heap.size 0 (#[.int .u8 kk, .string xS, .int .i64 nn] : Array Value).toList = V2) := hV2
    have HB2 : Hid (Bl W0 V2) := HB.out.trans (hbV.mono HB.out.size)
    obtain ⟨hsQ, hbw2⟩ := HBX.out V2 HB2.out
    have HRQ := hid hsQ
    have hlt : ((e.take i).map (fullS t j l)).length = i := by rw [List.length_map, List.length_take, HMM.out]; omega
    have HO2 : Hid (OwnK (fun _ => False) rStpW 3 53 W0.heap.size V2 (.slice a1 i c1) ((e.take i).map (fullS t j l))) := own_keep fStpW HO.out fun g cur hg => hbV.block g (gsi hg).1
    have hne : ∀ g, (Value.slice a1 i c1).ownBlock = some g → g ≠ wr.heap.size := fun g hg => by
     obtain ⟨cells, ho, _⟩ := HO.out
     have := (ho.lt g hg).2
     omega
    obtain ⟨G, hG⟩ := gen wr.heap.size
    rw [hG] at HTH HV2 hgQ hne
    have HW0 : Hid (W0.heap.size ≤ G ∧ G < V2.heap.size) := ⟨by rw [← hG]; exact HB.out.size, (gsi hgQ).1⟩
    have d0 := cell_of_row (k := 0) (v := .int .u8 kk) hgQ rfl
    have d1 := cell_of_row (k := 1) (v := .string xS) hgQ rfl
    have z0 : (0 : Int) ≤ (i : Int) := by omega
    have z1 : (i : Int) < (M : Int) := by omega
    by_cases h6 : x.k = 6
    · have y6 : (kk == 6) = true := by rw [← hkk, h6]; rfl
      have hxs : xS.data.toList = x.t := by rw [← hxS]
      have hxz : xS.size ≤ 140737488355328 := by rw [← hxS]; show x.t.toArray.size ≤ _; simpa using hok.2.2
      have C1 := CF.out V2 hbw2 xS hxz
      rw [hxs] at C1
      obtain ⟨fS, hfS⟩ := bya (fullP t j l x.t)
      rw [hfS] at C1
      have HC1 := hid C1
      have HGQ := hid hgQ
      have HREL : Hid (∀ W, rStpW (fun _ => False) W [.int .u8 kk, .string fS, .int .i64 nn] (fullS t j l x)) := fun W => by
       unfold fullS
       rw [if_pos h6]
       refine ⟨?_, ⟨by show (6 : Nat) < 256; decide, hok.2.1, hsx h6⟩⟩
       rw [← hkk, h6, ← hfS, hnn]
      have HNE := hid hne
      clear hil hbw hc hrg hcs hok hnx hsx hx hxS hkk hnn hth hV2 hgQ hbV hsQ hbw2 hne C1 hxs hxz hfS h6 HB HO
      go_wp2_with (first | ((with_reducible (show wpList _ _ _ (Oper.mk _ (.load _ _) _ _ _ none :: _) _ _)); first | (refine wpList_load_mid rfl 53 _ rfl b (o + i * 3) rfl _ _ HRC.out underlying53 rfl sz_stp2 ?_) | (refine wpList_load_mid rfl 26 _ rfl w.heap.size 0 rfl _ _ HRQ.out underlying26 rfl sz_qry ?_)) | ((with_reducible (show wpList _ _ _ (Oper.mk _ (.store _ _ _) _ _ _ none :: _) _ _)); refine wpList_store_mid rfl 53 _ _ rfl G 0 #[.int .u8 kk, .string xS, .int .i64 nn] rfl rfl HTH.out sz_stp2 (by simp [Value.oneCell']) ?_; rw [show WA.setCells G 0 (#[.int .u8 kk, .string xS, .int .i64 nn] : Array Value).toList = V2 from HV2.out]))
      refine HC1.out.mono ?_
      rintro y w3 ⟨rfl, hb3⟩
      have hg3 := (hb3.block _ HW0.out.2).trans HGQ.out
      obtain ⟨⟨u1, cu1⟩, fu1, X, hX, hgX, hsX, hkX⟩ := put_one w3 G 1 _ 53 hg3 (by simp) (.string fS)
      have hb03 : Bl W0 w3 := HB2.out.trans (hb3.mono HB2.out.size)
      have hXw : Bl W0 X := ⟨hkX.os.trans hb03.os, hkX.tape.trans hb03.tape, hkX.output.trans hb03.output, by have := hb03.size; omega, fun b hb => (hkX.block b (by have := HW0.out.1; show b ≠ _; omega)).trans (hb03.block b hb)⟩
      have ho : OwnK (fun _ => False) rStpW 3 53 W0.heap.size X (.slice a1 i c1) ((e.take i).map (fullS t j l)) := by
       obtain ⟨cells, ho, hr⟩ := HO2.out
       refine ⟨cells, owns_kept ho (fun g hg => (hkX.block g (HNE.out g hg)).trans (hb3.block g (ho.lt g hg).2)), fun j hj => hr j hj⟩
      have HRX : Hid (X.rangeAt G 0 [.int .u8 kk, .string fS, .int .i64 nn]) := rgz hgX
      obtain ⟨v3, X3, e3, ho3, hk3⟩ := ho.push mStpW (bytes := 32) (ts := 23) underlying23 hi53 hz53 hs53 hb53 rfl (by omega) hXw.size (x := fullS t j l x) (cs := [.int .u8 kk, .string fS, .int .i64 nn]) rfl (by intro c hc; simp at hc; rcases hc with rfl | rfl | rfl <;> rfl) (fun b hb => hb.elim) (HREL.out X) (by rw [hlt]; omega) (by rw [hlt]; unfold maxLen; omega)
      obtain ⟨a3, c3, ev⟩ := ownF_slice ho3
      rw [List.length_append, hlt] at ev
      have ev2 : v3 = .slice a3 (i + 1) c3 := ev
      subst ev2
      have HE3 := hid e3
      have HB3 : Hid (Bl W0 X3) := own_below ho hk3 hXw (Nat.le_refl _) hXw.size
      have HO3 : Hid (OwnK (fun _ => False) rStpW 3 53 W0.heap.size X3 (.slice a3 (i + 1) c3) ((e.take (i + 1)).map (fullS t j l))) := by
       show OwnK _ _ _ _ _ _ _ _
       rw [HNX.out]
       exact ho3
      clear HC1 hb3 hg3 hgX hsX hkX hb03 hXw ho e3 ho3 hk3 ev HTH HV2 hWA HRC HRQ d0 d1 y6 hlt
      go_wp2_with (first | (refine wpList_load_mid rfl 53 _ rfl G 0 rfl _ _ HRX.out underlying53 rfl sz_stp2 ?_) | (at_builtin; refine Lib.wpList_append_run _ rfl _ _ _ _ rfl (.slice a1 i c1) (.slice (some ⟨X.heap.size, 0, none⟩) 1 1) rfl rfl _ _ HE3.out ?_))
      go_roundg g'
      case measure => omega
      case rel => exact ⟨i + 1, c3, a3, rfl, by go_num, by omega, by omega, HB3, HO3⟩
    · have y6 : (kk == 6) = false := bfn (by omega)
      have HREL : Hid (∀ W, rStpW (fun _ => False) W [.int .u8 kk, .string xS, .int .i64 nn] (fullS t j l x)) := fun W => by
       unfold fullS
       rw [if_neg h6]
       exact ⟨by rw [hxS, hkk, hnn], hok⟩
      have HRX : Hid (V2.rangeAt G 0 [.int .u8 kk, .string xS, .int .i64 nn]) := rgz hgQ
      have ho := HO2.out
      have hXw := HB2.out
      obtain ⟨v3, X3, e3, ho3, hk3⟩ := ho.push mStpW (bytes := 32) (ts := 23) underlying23 hi53 hz53 hs53 hb53 rfl (by omega) hXw.size (x := fullS t j l x) (cs := [.int .u8 kk, .string xS, .int .i64 nn]) rfl (by intro c hc; simp at hc; rcases hc with rfl | rfl | rfl <;> rfl) (fun b hb => hb.elim) (HREL.out V2) (by rw [hlt]; omega) (by rw [hlt]; unfold maxLen; omega)
      obtain ⟨a3, c3, ev⟩ := ownF_slice ho3
      rw [List.length_append, hlt] at ev
      have ev2 : v3 = .slice a3 (i + 1) c3 := ev
      subst ev2
      have HE3 := hid e3
      have HB3 : Hid (Bl W0 X3) := own_below ho hk3 hXw (Nat.le_refl _) hXw.size
      have HO3 : Hid (OwnK (fun _ => False) rStpW 3 53 W0.heap.size X3 (.slice a3 (i + 1) c3) ((e.take (i + 1)).map (fullS t j l))) := by
       show OwnK _ _ _ _ _ _ _ _
       rw [HNX.out]
       exact ho3
      clear hil hbw hc hrg hcs hok hnx hsx hx hxS hkk hnn hth hV2 hgQ hbV hsQ hbw2 hne h6 HB HO hXw ho e3 ho3 hk3 ev hlt
      go_wp2_with (first | ((with_reducible (show wpList _ _ _ (Oper.mk _ (.load _ _) _ _ _ none :: _) _ _)); first | (refine wpList_load_mid rfl 53 _ rfl b (o + i * 3) rfl _ _ HRC.out underlying53 rfl sz_stp2 ?_) | (refine wpList_load_mid rfl 53 _ rfl G 0 rfl _ _ HRX.out underlying53 rfl sz_stp2 ?_)) | ((with_reducible (show wpList _ _ _ (Oper.mk _ (.store _ _ _) _ _ _ none :: _) _ _)); refine wpList_store_mid rfl 53 _ _ rfl G 0 #[.int .u8 kk, .string xS, .int .i64 nn] rfl rfl HTH.out sz_stp2 (by simp [Value.oneCell']) ?_; rw [show WA.setCells G 0 (#[.int .u8 kk, .string xS, .int .i64 nn] : Array Value).toList = V2 from HV2.out]) | (at_builtin; refine Lib.wpList_append_run _ rfl _ _ _ _ rfl (.slice a1 i c1) (.slice (some ⟨V2.heap.size, 0, none⟩) 1 1) rfl rfl _ _ HE3.out ?_))
      go_roundg g'
      case measure => omega
      case rel => exact ⟨i + 1, c3, a3, rfl, by go_num, by omega, by omega, HB3, HO3⟩
  · have z1 : ¬ (i : Int) < (M : Int) := by omega
    obtain rfl : i = M := by omega
    have HBE := hid (HBX.out wr HB.out).2
    have HQ : Hid (StpE w.heap.size wr (e.map (fullS t j l)) (.returned (.slice a1 i c1))) := by
     have h1 := HO.out
     rw [List.take_of_length_le (by rw [HMM.out]; exact Nat.le_refl _)] at h1
     have h2 := (ownF_list fStpW h1 (bytes := 32) (by rw [List.length_map, HMM.out]; omega)).less (C := w.heap.size) mStpW HZ.out
     have h3 : (e.map (fullS t j l)).length = i := by rw [List.length_map, HMM.out]
     exact ⟨a1, c1, by rw [h3], by rw [h3]; exact h2⟩
    clear HO HB
    go_wp2_with fail
    go_ret
    exact ⟨HQ.out, HBE.out⟩
end Go.Proofs.YtfifphfihdhlaaaGreatDoor.Bd
