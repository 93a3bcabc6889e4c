/- An atom of one of some texts. -/
import Derived.Test.YtfifphfihdhlaaaGreatDoorQoQp
set_option maxRecDepth 100000
set_option maxHeartbeats 32000000
namespace Go.Proofs.YtfifphfihdhlaaaGreatDoor
open Tryz
open Go.Shelf Go.RowKit Go.Lib Go.Sort
set_option linter.unusedVariables false
set_option linter.unusedSimpArgs false
attribute [local go_sem ↓] Go.wp_at_zero Go.wp_at_succ
theorem str_at {K : Nat → Prop} {w : World} {q : Option Addr} {n c : Nat} {l : List (List UInt8)} (h : ListIs rStr 1 16 K w (.slice q n c) l) (hl : 0 < l.length) : ∃ b o, q = some ⟨b, o, none⟩ ∧ K b ∧ ∀ i (hi : i < l.length), w.cell? ⟨b, o + i, none⟩ = some (.string ⟨(l[i]).toArray⟩) := by
 obtain ⟨q', c', e, _, hp⟩ := h
 obtain ⟨b, o, rfl, hKb, hc⟩ := hp hl
 cases e
 refine ⟨b, o, rfl, hKb, fun i hi => ?_⟩
 obtain ⟨cs, _, hcell, rfl, _⟩ := hc i hi
 simpa using hcell 0 _ rfl
def inP (l : List (List UInt8)) (t : List UInt8) : Bool := l.any fun x => decide (x = t)
theorem index_str (K : Nat → Prop) (q : Option Addr) (c : Nat) (l : List (List UInt8)) (s : ByteArray) (w : World) (h : ListIs rStr 1 16 K w (.slice q l.length c) l) :
 Calls prog 185 #[.slice q l.length c, .string s] w fun e w' => ∃ k : Int, e = .returned (.int .i64 k) ∧ ((0 ≤ k ∧ inP l s.data.toList = true) ∨ (k = -1 ∧ inP l s.data.toList = false)) ∧ w' = w := by
 have HL := hid h
 have hlen : l.length ≤ 8796093022208 := by
  obtain ⟨_, _, _, ⟨hb, _⟩, _⟩ := h
  omega
 clear h
 go_enter func185, ntmps185
 go_wp2_with fail
 go_loopg [8] l.length (fun gf s8 wx => ∃ (i : Nat), s8 = .int .i64 i ∧ i ≤ l.length ∧ l.length ≤ i + gf ∧ Hid (wx = w) ∧ Hid (inP (l.take i) s.data.toList = false))
 case atStart => exact ⟨0, rfl, by omega, by omega, rfl, rfl⟩
 case round =>
  obtain ⟨i, rfl, hi1, hgf, HW, HN⟩ := hrel
  have hw := HW.out
  subst hw
  by_cases hi : i < l.length
  · obtain ⟨g', rfl⟩ : ∃ g', gk = g' + 1 := ⟨gk - 1, by omega⟩
    obtain ⟨b, o, hq, _, hc⟩ := str_at HL.out (by omega)
    subst hq
    have hcell := hc i hi
    obtain ⟨A, hA⟩ := bya (l[i])
    have hAl : A.data.toList = l[i] := by rw [← hA]
    rw [hA] at hcell
    have htk : l.take (i + 1) = l.take i ++ [l[i]] := List.take_succ_eq_append_getElem hi
    have z0 : (0 : Int) ≤ (i : Int) := by omega
    have z1 : (i : Int) < (l.length : Int) := by omega
    by_cases he : s.data.toList = l[i]
    · have ht : (s.toList == A.toList) = true := by rw [Lib.toList_data, Lib.toList_data, hAl, he]; simp
      have HA : Hid (inP l s.data.toList = true) := List.any_eq_true.2 ⟨l[i], List.getElem_mem hi, decide_eq_true he.symm⟩
      clear hc hA hAl htk he HN HW HL
      go_wp2_with fail
      go_ret
      exact ⟨_, rfl, .inl ⟨by omega, HA.out⟩, rfl⟩
    · have ht : (s.toList == A.toList) = false := by rw [Lib.toList_data, Lib.toList_data, hAl]; exact bfn he
      have HN2 : Hid (inP (l.take (i + 1)) s.data.toList = false) := by
       show _ = _
       rw [htk]
       have := HN.out
       unfold inP at this ⊢
       rw [List.any_append, this]
       simp [Ne.symm he]
      clear hc hA hAl htk he HN HW
      go_wp2_with fail
      go_roundg g'
      case measure => omega
      case rel => exact ⟨i + 1, by go_num, by omega, by omega, rfl, HN2⟩
  · have z1 : ¬ (i : Int) < (l.length : Int) := by omega
    have HA : Hid (inP l s.data.toList = false) := by
     have := HN.out
     rwa [List.take_of_length_le (by omega)] at this
    clear HN HW HL
    go_wp2_with fail
    go_ret
    exact ⟨_, rfl, .inr ⟨rfl, HA.out⟩, rfl⟩
theorem contains_str (K : Nat → Prop) (q : Option Addr) (c : Nat) (l : List (List UInt8)) (s : ByteArray) (w : World) (h : ListIs rStr 1 16 K w (.slice q l.length c) l) :
 Calls prog 169 #[.slice q l.length c, .string s] w fun e w' => e = .returned (.bool (inP l s.data.toList)) ∧ w' = w := by
 have C := hid (index_str K q c l s w h)
 obtain ⟨R, hR⟩ := gen (inP l s.data.toList)
 rw [hR] at C ⊢
 clear h hR
 go_enter func169, ntmps169
 go_wp2_with fail
 refine C.out.mono ?_
 rintro e w1 ⟨k, rfl, hk, rfl⟩
 clear C
 rcases hk with ⟨hk, rfl⟩ | ⟨rfl, rfl⟩
 · go_wp2_with fail
   go_ret
   exact ⟨rfl, rfl⟩
 · go_wp2_with fail
   go_ret
   exact ⟨rfl, rfl⟩
theorem atom1_any (K : Nat → Prop) (q : Option Addr) (c R : Nat) (l : List (List UInt8)) (t : Tok) (w : World) (hc : w.cell? ⟨R, 0, none⟩ = some (.slice q l.length c)) (hR : R < w.heap.size) (hK : ∀ b, K b → b < w.heap.size) (h : ListIs rStr 1 16 K w (.slice q l.length c) l) :
 Calls prog 168 #[t.v, .pointer (some ⟨R, 0, none⟩)] w fun e w' => e = .returned (.bool (atomP l t)) ∧ Bl w w' := by
 obtain ⟨s, hv, hst⟩ := tok_str t
 rw [hv]
 obtain ⟨W0, hW0⟩ := gen (w.alloc (.cells #[.int .u8 t.k, .string s, .int .i64 t.n, .int .i64 t.a] 160))
 have hb0 : Bl w W0 := by rw [← hW0]; exact below_alloc _ _
 have hg0 : W0.heap[w.heap.size]? = some (.cells #[.int .u8 t.k, .string s, .int .i64 t.n, .int .i64 t.a] 160 (0, 0)) := by rw [← hW0]; exact heap_alloc_new w _
 have c0 := cell_of_row (k := 0) (v := .int .u8 t.k) hg0 rfl
 have c1 := cell_of_row (k := 1) (v := .string s) hg0 rfl
 have c2 : W0.cell? ⟨R, 0, none⟩ = some (.slice q l.length c) := (hb0.cell (p := ⟨R, 0, none⟩) hR).trans hc
 have C := hid (contains_str K q c l s W0 (h.mono mStr (fun _ h => h) (kept_of hK hb0)))
 rw [hst] at C
 have HB := hid hb0
 clear hb0 hg0 hv hst h hK hR hc
 by_cases h3 : t.k = 3
 · have y : (t.k == 3) = true := by simp [h3]
   obtain ⟨N, hN⟩ := gen (inP l t.t)
   have HE : Hid (atomP l t = N) := by show _ = _; unfold atomP; rw [decide_eq_true h3, ← hN]; rfl
   rw [hN] at C
   clear h3 hN
   go_enter func168, ntmps168
   go_wp2_with fail
   refine C.out.mono ?_
   rintro e w1 ⟨rfl, rfl⟩
   clear C
   go_wp2_with fail
   go_ret
   exact ⟨by rw [HE.out]; rfl, HB.out⟩
 · have y : (t.k == 3) = false := bfn h3
   have HE : Hid (atomP l t = false) := by show _ = _; unfold atomP; rw [decide_eq_false h3]; rfl
   clear h3 C
   go_enter func168, ntmps168
   go_wp2_with fail
   go_ret
   exact ⟨by rw [HE.out]; rfl, HB.out⟩
theorem enters168 : ∀ args w, (callFunc 168 args).run prog w = .ok (.enter 168 args) w := enters_of func168 (by kernel_rfl) rfl
theorem atom_any (q : Option Addr) (n c : Nat) (w : World) : Calls prog 151 #[.slice q n c] w fun e w' => e = .returned (.func (.func 168) #[] #[.pointer (some ⟨w.heap.size, 0, none⟩)]) ∧ w' = w.alloc (.cells #[.slice q n c] 24) := by
 go_enter func151, ntmps151
 go_wp2_with fail
 go_ret
 exact ⟨rfl, rfl⟩
theorem want_atom (K : Nat → Prop) (q : Option Addr) (c R : Nat) (l : List (List UInt8)) (W : World) (hc : W.cell? ⟨R, 0, none⟩ = some (.slice q l.length c)) (hR : R < W.heap.size) (hK : ∀ b, K b → b < W.heap.size) (h : ListIs rStr 1 16 K W (.slice q l.length c) l) :
 WantF W (.func (.func 168) #[] #[.pointer (some ⟨R, 0, none⟩)]) (atomP l) :=
 ⟨168, _, rfl, enters168, fun W' hb t _ => by
  simpa using atom1_any K q c R l t W' ((hb.cell (p := ⟨R, 0, none⟩) hR).trans hc) (nlt hR hb.size) (fun b hb' => nlt (hK b hb') hb.size) (h.mono mStr (fun _ h => h) (kept_of hK hb))⟩
def clF : Nat → Nat
 | 0 => 170
 | 1 => 171
 | 2 => 172
 | _ => 173
def clC (B : Nat) : List Value := [.string ⟨#[106, 111, 105, 110]⟩, .func (.func 170) #[.pointer (some ⟨B, 0, none⟩)] #[], .string ⟨#[119, 104, 101, 114, 101]⟩, .func (.func 171) #[.pointer (some ⟨B, 0, none⟩)] #[], .string ⟨#[103, 114, 111, 117, 112]⟩, .func (.func 172) #[.pointer (some ⟨B, 0, none⟩)] #[], .string ⟨#[103, 101, 116]⟩, .func (.func 173) #[.pointer (some ⟨B, 0, none⟩)] #[]]
theorem enters170 : ∀ args w, (callFunc 170 args).run prog w = .ok (.enter 170 args) w := enters_of func170 (by kernel_rfl) rfl
theorem enters171 : ∀ args w, (callFunc 171 args).run prog w = .ok (.enter 171 args) w := enters_of func171 (by kernel_rfl) rfl
theorem enters172 : ∀ args w, (callFunc 172 args).run prog w = .ok (.enter 172 args) w := enters_of func172 (by kernel_rfl) rfl
theorem enters173 : ∀ args w, (callFunc 173 args).run prog w = .ok (.enter 173 args) w := enters_of func173 (by kernel_rfl) rfl
def wordP (m : Nat) : List UInt8 := clausesP[m]?.getD []
theorem may_at {w : World} {g B : Nat} (h : w.heap[g]? = some (.cells (clC B).toArray 212 (0, 0))) (m : Nat) (hm : m < 4) : w.cell? ⟨g, m * 2, none⟩ = some (.string ⟨(wordP m).toArray⟩) ∧ w.cell? ⟨g, m * 2 + 1, none⟩ = some (.func (.func (clF m)) #[.pointer (some ⟨B, 0, none⟩)] #[]) := by
 match m, hm with
 | 0, _ => exact ⟨cell_of_row h rfl, cell_of_row h rfl⟩
 | 1, _ => exact ⟨cell_of_row h rfl, cell_of_row h rfl⟩
 | 2, _ => exact ⟨cell_of_row h rfl, cell_of_row h rfl⟩
 | 3, _ => exact ⟨cell_of_row h rfl, cell_of_row h rfl⟩
theorem read_of (m : Nat) (hm : m < 4) (base : Nat) (K : Nat → Prop) (B Q : Nat) (en : Int) (w : World) (q : Qry) (x : PS) (hp : QPre base K B Q en w q x) : ∃ F, clF m = F ∧ (∀ args w, (callFunc F args).run prog w = .ok (.enter F args) w) ∧
 Calls prog F #[.pointer (some ⟨B, 0, none⟩), .pointer (some ⟨Q, 0, none⟩)] w fun e w' => OutQ base K B Q en w (clauseR en m q x) e w' := by
 match m, hm with
 | 0, _ => exact ⟨170, rfl, enters170, join_any base K B Q en w q x hp⟩
 | 1, _ => exact ⟨171, rfl, enters171, where_any base K B Q en w q x hp⟩
 | 2, _ => exact ⟨172, rfl, enters172, group_any base K B Q en w q x hp⟩
 | 3, _ => exact ⟨173, rfl, enters173, get_any base K B Q en w q x hp⟩
def idxP (t : List UInt8) : Nat := clausesP.findIdx fun x => decide (x = t)
theorem word_in (n : Nat) (t : Tok) (hn : n < 4) (h : atomP (clausesP.drop n) t = true) : ∃ J, n + J < 4 ∧ idxP t.t = n + J ∧ wordP (n + J) = t.t ∧ ∀ j, j < J → wordP (n + j) ≠ t.t := by
 unfold atomP at h
 obtain ⟨_, h⟩ := (Bool.and_eq_true _ _).mp h
 obtain ⟨x, hx, he⟩ := List.any_eq_true.1 h
 have he2 : x = t.t := of_decide_eq_true he
 rw [he2] at hx
 generalize t.t = tt at hx
 have key : ∀ m, m < 4 → ∀ k, k < 4 → m ≤ k → idxP (wordP k) = k ∧ ∀ j, j < k - m → wordP (m + j) ≠ wordP k := by decide
 have hmem : ∃ k, k < 4 ∧ n ≤ k ∧ wordP k = tt := by
  match n, hn with
  | 0, _ =>
   simp [clausesP] at hx
   rcases hx with rfl | rfl | rfl | rfl
   · exact ⟨0, by omega, by omega, rfl⟩
   · exact ⟨1, by omega, by omega, rfl⟩
   · exact ⟨2, by omega, by omega, rfl⟩
   · exact ⟨3, by omega, by omega, rfl⟩
  | 1, _ =>
   simp [clausesP] at hx
   rcases hx with rfl | rfl | rfl
   · exact ⟨1, by omega, by omega, rfl⟩
   · exact ⟨2, by omega, by omega, rfl⟩
   · exact ⟨3, by omega, by omega, rfl⟩
  | 2, _ =>
   simp [clausesP] at hx
   rcases hx with rfl | rfl
   · exact ⟨2, by omega, by omega, rfl⟩
   · exact ⟨3, by omega, by omega, rfl⟩
  | 3, _ =>
   simp [clausesP] at hx
   subst hx
   exact ⟨3, by omega, by omega, rfl⟩
 obtain ⟨k, hk, hnk, rfl⟩ := hmem
 obtain ⟨h1, h2⟩ := key n hn k hk hnk
 exact ⟨k - n, by omega, by omega, by rw [show n + (k - n) = k by omega], fun j hj => h2 j hj⟩
def clauseM (en : Int) (n : Nat) (q : Qry) (s : PS) : Res (Qry × Nat) := andR (takeP en (atomP (clausesP.drop n)) s) fun h s => andR (clauseR en (idxP h.t) q s) fun q s => .inr ((q, idxP h.t + 1), s)
def OutM (g base : Nat) (K : Nat → Prop) (B Q : Nat) (en : Int) (w : World) (r : Res (Qry × Nat)) (e : Ending) (w' : World) : Prop :=
 Kept (fun b => b < w.heap.size ∧ b ≠ B ∧ b ≠ Q) w w' ∧ ((∃ y a, r = .inl (y, a) ∧ e = faultE y a) ∨ ∃ q x m L o, r = .inr ((q, m), x) ∧ e = .returned (.slice (some ⟨g, o, none⟩) L L) ∧ m + L = 4 ∧ (0 < L → o = m * 2) ∧ QPre base K B Q en w' q x)
theorem word_len (m : Nat) (hm : m < 4) : (wordP m).length ≤ 100000 := by
 match m, hm with
 | 0, _ => decide
 | 1, _ => decide
 | 2, _ => decide
 | 3, _ => decide
theorem words_take (n i : Nat) (h : n + i < 4) : (clausesP.drop n).take (i + 1) = (clausesP.drop n).take i ++ [wordP (n + i)] := by
 have key : ∀ n, n < 4 → ∀ i, i < 4 → n + i < 4 → (clausesP.drop n).take (i + 1) = (clausesP.drop n).take i ++ [wordP (n + i)] := by decide
 exact key n (by omega) i (by omega) h
theorem clause_any (g o n L : Nat) (base : Nat) (K : Nat → Prop) (B Q : Nat) (en : Int) (w : World) (q : Qry) (x : PS) (hp : QPre base K B Q en w q x) (hg : w.heap[g]? = some (.cells (clC B).toArray 212 (0, 0))) (hgB : g ≠ B) (hgQ : g ≠ Q) (hnL : n + L = 4) (hL : 0 < L) (ho : o = n * 2) :
 Calls prog 174 #[.pointer (some ⟨B, 0, none⟩), .pointer (some ⟨Q, 0, none⟩), .slice (some ⟨g, o, none⟩) L L] w fun e w' => OutM g base K B Q en w (clauseM en n q x) e w' := by
 have HP := hid hp
 have hgl : g < w.heap.size := (gsi hg).1
 have HG : Hid (∀ V : World, V.heap[g]? = w.heap[g]? → ∀ i, i < L → ∃ (A : ByteArray) (F : Nat), (⟨(wordP (n + i)).toArray⟩ : ByteArray) = A ∧ clF (n + i) = F ∧ V.cell? ⟨g, o + i * 2, none⟩ = some (.string A) ∧ V.cell? ⟨g, o + i * 2 + 1, none⟩ = some (.func (.func F) #[.pointer (some ⟨B, 0, none⟩)] #[]) ∧ V.rangeAt g (o + i * 2) [.string A, .func (.func F) #[.pointer (some ⟨B, 0, none⟩)] #[]]) := fun V hV i hi => by
  have h := may_at (hV.trans hg) (n + i) (by omega)
  have e : (n + i) * 2 = o + i * 2 := by omega
  rw [e] at h
  refine ⟨_, _, rfl, rfl, h.1, h.2, fun j u hu => ?_⟩
  match j, hu with
  | 0, hu => simp at hu; subst hu; simpa using h.1
  | 1, hu => simp at hu; subst hu; exact h.2
  | j + 2, hu => simp at hu
 have HGF := hid (And.intro hgl (And.intro hgB hgQ))
 have hL4 : L ≤ 4 := by omega
 have HNL : Hid (n + L = 4 ∧ 0 < L ∧ o = n * 2) := ⟨hnL, hL, ho⟩
 have hcl : (prog.info? 212).map (·.size) = some 2 := by kernel_rfl
 have HCL := hid hcl
 obtain ⟨i0, hi0, hz0, hz1, hz2⟩ := inE_str
 have HR : Hid (clauseM en n q x = andR (takeP en (atomP (clausesP.drop n)) x) fun h s => andR (clauseR en (idxP h.t) q s) fun q s => .inr ((q, idxP h.t + 1), s)) := rfl
 clear hp hg hgl hgB hgQ hnL ho hcl
 go_enter func174, ntmps174
 go_wp2_with fail
 go_loopg [7, 14] L (fun gf s7 s14 wx => ∃ (i : Nat) (u : Value), u = s7 ∧ s14 = .int .i64 i ∧ i ≤ L ∧ L ≤ i + gf ∧ Hid (Bl w wx) ∧ Hid (OwnR rStr 1 9 w.heap.size wx u ((clausesP.drop n).take i)) ∧ Hid (((clausesP.drop n).take i).length = i))
 case atStart => exact ⟨0, _, rfl, rfl, by omega, by omega, Below.refl _ _, OwnR.none (World.ownsRow_nil _ _ _ _), rfl⟩
 case round =>
  obtain ⟨i, u, rfl, rfl, hi1, hgf, HB, HO, HLN⟩ := hrel
  by_cases hi : i < L
  · obtain ⟨g', rfl⟩ : ∃ g', gk = g' + 1 := ⟨gk - 1, by omega⟩
    obtain ⟨A, F, hA, hF, e0, e1, hrg⟩ := HG.out wr (HB.out.block _ HGF.out.1) i hi
    have HRG := hid hrg
    obtain ⟨pu, cu, hu⟩ := HO.out.slice
    rw [HLN.out] at hu
    subst hu
    obtain ⟨WA, hWA, hth, W1, hW1, hg1, hb1⟩ := box_two wr 212 (.string ⟨#[]⟩) .nilFunc (.string A) (.func (.func F) #[.pointer (some ⟨B, 0, none⟩)] #[])
    have HTH := hid hth
    have HW1 := hid hW1
    have c0 := cell_of_row (k := 0) (v := .string A) hg1 rfl
    have hn4 : n + i < 4 := by have := HNL.out; omega
    obtain ⟨v', X2, e2, ho2, hB2, hs2, hk2⟩ := (HO.out.keep mStr hb1).push mStr (bytes := 16) (ts := 24) underlying24 hi0 hz0 hz1 hz2 rfl (by omega) (by have := HB.out.size; have := hb1.size; omega) (x := wordP (n + i)) (cs := [.string A]) (K2 := fun _ => False) rfl (by intro c hc; simp at hc; subst hc; rfl) (fun b hb => hb.elim) ⟨by rw [hA], word_len _ hn4⟩ (by rw [HLN.out]; omega) (by rw [HLN.out]; unfold maxLen; omega)
    have HB2 : Hid (Bl w X2) := hB2 _ _ (HB.out.trans (hb1.mono HB.out.size)) (Nat.le_refl _)
    have HO2 : Hid (OwnR rStr 1 9 w.heap.size X2 v' ((clausesP.drop n).take (i + 1))) := by have := ho2; rw [← words_take n i hn4] at this; exact this
    have HLN2 : Hid (((clausesP.drop n).take (i + 1)).length = i + 1) := by show _ = _; rw [words_take n i hn4, List.length_append, HLN.out]; rfl
    have z0 : (0 : Int) ≤ (i : Int) := by omega
    have z1 : (i : Int) < (L : Int) := by omega
    clear hth hW1 hrg hA hF hb1 hg1 ho2 hB2 hs2 hk2 HO HLN HB e0 e1 hn4
    go_wp2_with (first | (refine wpList_load_mid rfl 212 _ rfl g (o + i * 2) rfl _ _ HRG.out underlying212 rfl HCL.out ?_) | (refine wpList_store_mid rfl 212 _ _ rfl wr.heap.size 0 #[.string A, .func (.func F) #[.pointer (some ⟨B, 0, none⟩)] #[]] rfl rfl HTH.out HCL.out (by simp [Value.oneCell']) ?_; rw [show WA.setCells wr.heap.size 0 (#[.string A, .func (.func F) #[.pointer (some ⟨B, 0, none⟩)] #[]] : Array Value).toList = W1 from HW1.out]) | (at_builtin; refine Lib.wpList_append_run _ rfl _ _ _ _ rfl (.slice pu i cu) (.slice (some ⟨W1.heap.size, 0, none⟩) 1 1) rfl rfl _ _ e2 ?_))
    go_roundg g'
    case measure => omega
    case rel => exact ⟨i + 1, _, rfl, by go_num, by omega, by omega, HB2, HO2, HLN2⟩
  · have z1 : ¬ (i : Int) < (L : Int) := by omega
    have hiL : i = L := by omega
    have htk : (clausesP.drop n).take i = clausesP.drop n := List.take_of_length_le (by have := HNL.out; simp [clausesP]; omega)
    have HO2 : Hid (OwnR rStr 1 9 w.heap.size wr u (clausesP.drop n)) := by have := HO.out; rw [htk] at this; exact this
    have hlw : (clausesP.drop n).length = L := by have := HNL.out; simp [clausesP]; omega
    obtain ⟨pu, cu, hu, hli⟩ := HO2.out.list mStr (bytes := 16) (by rw [hlw]; omega)
    subst hu
    obtain ⟨m, hm⟩ := gen ((clausesP.drop n).length)
    obtain ⟨wa, hwa⟩ : ∃ wa, wa = wr := ⟨_, rfl⟩
    subst hwa
    obtain ⟨W3, hW3⟩ := gen (wa.alloc (.cells #[.slice pu m cu] 24))
    have hb3 : Bl wa W3 := by rw [← hW3]; exact below_alloc _ _
    have hg3 : W3.heap[wa.heap.size]? = some (.cells #[.slice pu m cu] 24 (0, 0)) := by rw [← hW3]; exact heap_alloc_new _ _
    have hl3 : wa.heap.size < W3.heap.size := (gsi hg3).1
    obtain ⟨W4, hW4⟩ := gen (W3.alloc (.cells #[.func (.func 168) #[] #[.pointer (some ⟨wa.heap.size, 0, none⟩)]] 187))
    have hb4 : Bl W3 W4 := by rw [← hW4]; exact below_alloc _ _
    have hbw3 : Bl w W3 := HB.out.trans (hb3.mono HB.out.size)
    have hbw4 : Bl w W4 := hbw3.trans (hb4.mono hbw3.size)
    have hwf : WantF W3 (.func (.func 168) #[] #[.pointer (some ⟨wa.heap.size, 0, none⟩)]) (atomP (clausesP.drop n)) :=
     want_atom (From w.heap.size wa) pu cu wa.heap.size (clausesP.drop n) W3 (by rw [hm]; exact cell_of_row hg3 rfl) hl3 (fun b hb => nlt hb.2 hb3.size) (hli.mono mStr (fun _ h => h) (kept_of (fun b hb => hb.2) hb3))
    have C2 := take_new [(.func (.func 168) #[] #[.pointer (some ⟨wa.heap.size, 0, none⟩)], atomP (clausesP.drop n))] (.slice (some ⟨W3.heap.size, 0, none⟩) 1 1) W4 K w B en x HP.out.rd hbw4 (by rw [← hW4]; exact wants_one W3 _ _ hwf)
    rw [anyP_one] at C2
    have C2 := hid C2
    have C1 : Hid (Calls prog 151 #[.slice pu m cu] wa fun e w' => e = .returned (.func (.func 168) #[] #[.pointer (some ⟨wa.heap.size, 0, none⟩)]) ∧ w' = W3) := by have := atom_any pu m cu wa; rw [hW3] at this; exact this
    rw [hm]
    clear htk hlw hli hm hb3 hg3 hl3 hb4 hbw3 hbw4 hwf HO HO2 HLN HB hiL hi hgf hi1
    go_wp2_with fail
    refine C1.out.mono ?_
    rintro e w1 ⟨rfl, rfl⟩
    clear C1
    go_wp2_with fail
    refine C2.out.mono ?_
    rintro e w5 ⟨hk5, ⟨y, a, hr, rfl⟩ | ⟨t, x1, v, hr, rfl, ⟨rfl, hok⟩, hrd5⟩⟩
    · have HF : Hid (OutM g base K B Q en w (clauseM en n q x) (faultE y a) w5) := ⟨hk5.less fun b hb => ⟨hb.1, hb.2.1⟩, .inl ⟨y, a, by rw [HR.out, hr]; rfl, rfl⟩⟩
      clear hk5 hr C2
      unfold faultE at HF ⊢
      go_wp2_with fail
      exact ⟨rfl, HF.out⟩
    · obtain ⟨s, hs⟩ := bya t.t
      have hv : t.v = .agg #[.int .u8 t.k, .string s, .int .i64 t.n, .int .i64 t.a] := by rw [← hs]; rfl
      have HSL : Hid (s.data.toList = t.t) := by show _ = _; rw [← hs]
      have hfd := text_of s t.k t.n t.a
      obtain ⟨J, hJ4, hJi, hJw, hJn⟩ := word_in n t (by have := HNL.out; omega) (take_len hr).2
      have hJL : J < L := by have := HNL.out; omega
      have HJ : Hid (wordP (n + J) = t.t ∧ ∀ j, j < J → wordP (n + j) ≠ t.t) := ⟨hJw, hJn⟩
      have HP5 := hid (HP.out.step hk5 hrd5)
      have HK5 : Hid (Kept (fun b => b < w.heap.size ∧ b ≠ B ∧ b ≠ Q) w w5) := hk5.less fun b hb => ⟨hb.1, hb.2.1⟩
      have HG5 : Hid (w5.heap[g]? = w.heap[g]?) := hk5.block _ ⟨HGF.out.1, HGF.out.2.1⟩
      have HR2 : Hid (clauseM en n q x = andR (clauseR en (n + J) q x1) fun q s => .inr ((q, n + J + 1), s)) := by show _ = _; rw [HR.out, hr]; show andR (clauseR en (idxP t.t) q x1) _ = _; rw [hJi]
      rw [hv]
      clear C2 hk5 hr hok hrd5 hs hv hJ4 hJi hJw hJn HR HP
      go_wp2_with fail
      go_loopg [11] (J + 1) (fun gf s11 wx => ∃ (i : Nat), s11 = .int .i64 i ∧ i ≤ J ∧ J < i + gf ∧ Hid (wx = w5))
      case atStart => exact ⟨0, rfl, by omega, by omega, rfl⟩
      case round =>
       obtain ⟨i, rfl, hi1, hgf, HW⟩ := hrel
       obtain ⟨g', rfl⟩ : ∃ g', gk = g' + 1 := ⟨gk - 1, by omega⟩
       have hw := HW.out
       obtain ⟨wb, hwb⟩ : ∃ wb, wb = wr := ⟨_, rfl⟩
       have hw5 : wb = w5 := hwb.trans hw
       subst hwb
       subst hw5
       clear HW hw
       obtain ⟨A, F, hA, hF, e0, e1, hrg0⟩ := HG.out wb HG5.out i (by omega)
       clear hrg0
       have hAl : A.data.toList = wordP (n + i) := by rw [← hA]
       have z0 : (0 : Int) ≤ (i : Int) := by omega
       have z1 : (i : Int) < (L : Int) := by omega
       by_cases hi : i < J
       · have hne : A.data.toList ≠ s.data.toList := by rw [hAl, HSL.out]; exact HJ.out.2 i hi
         have ht : (A.toList == s.toList) = false := by rw [Lib.toList_data, Lib.toList_data]; exact bfn hne
         have ht2 : (A.toList != s.toList) = true := by rw [Lib.toList_data, Lib.toList_data]; exact bne_iff_ne.2 hne
         clear hA hAl hne hF e1
         go_wp2_with fail
         go_roundg g'
         case measure => omega
         case rel => exact ⟨i + 1, by go_num, by omega, by omega, rfl⟩
       · have hiJ : J = i := by omega
         subst hiJ
         have heq : A.data.toList = s.data.toList := by rw [hAl, HSL.out]; exact HJ.out.1
         have ht : (A.toList == s.toList) = true := by rw [Lib.toList_data, Lib.toList_data, heq]; simp
         have ht2 : (A.toList != s.toList) = false := by rw [Lib.toList_data, Lib.toList_data, heq]; simp
         obtain ⟨F1, hF1, eg, hcF⟩ := read_of (n + J) (by have := HNL.out; omega) base K B Q en wb q x1 HP5.out
         have hFF : F1 = F := hF1.symm.trans hF
         subst hFF
         have C3 := hid hcF
         clear hA hAl heq hF hF1 hcF HP5 hi hi1 hgf
         go_wp2_with fail
         refine C3.out.mono ?_
         rintro e w6 ⟨hk6, ⟨y, a, hr, rfl⟩ | ⟨q6, x6, hr, rfl, hp6⟩⟩
         · have HF : Hid (OutM g base K B Q en w (clauseM en n q x) (faultE y a) w6) := ⟨HK5.out.trans (hk6.less fun b hb => ⟨nlt hb.1 HK5.out.size, hb.2⟩), .inl ⟨y, a, by rw [HR2.out, hr]; rfl, rfl⟩⟩
           clear hk6 hr C3
           unfold faultE at HF ⊢
           go_wp2_with fail
           exact ⟨rfl, HF.out⟩
         · have HK6 : Hid (Kept (fun b => b < w.heap.size ∧ b ≠ B ∧ b ≠ Q) w w6) := HK5.out.trans (hk6.less fun b hb => ⟨nlt hb.1 HK5.out.size, hb.2⟩)
           have HR3 : Hid (clauseM en n q x = .inr ((q6, n + J + 1), x6)) := by show _ = _; rw [HR2.out, hr]; rfl
           have HP6 := hid hp6
           clear hk6 hr hp6 C3 HR2 HK5 e0 e1 ht ht2
           by_cases hlast : J + 1 = L
           · have z2 : (J : Int) + 1 = (L : Int) := by omega
             have HF : Hid (OutM g base K B Q en w (clauseM en n q x) (.returned (.slice (some ⟨g, o, none⟩) 0 0)) w6) := ⟨HK6.out, .inr ⟨q6, x6, n + J + 1, 0, o, HR3.out, rfl, by have := HNL.out; omega, fun h => absurd h (by omega), HP6.out⟩⟩
             clear HR3 HP6 HK6
             subst hlast
             clear z2
             go_wp2_with fail
             go_ret
             exact HF.out
           · have z2 : (J : Int) + 1 < (L : Int) := by omega
             have z3 : ¬ (L : Int) < (J : Int) + 1 := by omega
             have HF : Hid (OutM g base K B Q en w (clauseM en n q x) (.returned (.slice (some ⟨g, o + (J + 1) * 2, none⟩) (L - (J + 1)) (L - (J + 1)))) w6) := ⟨HK6.out, .inr ⟨q6, x6, n + J + 1, L - (J + 1), o + (J + 1) * 2, HR3.out, rfl, by have := HNL.out; omega, fun h => by have := HNL.out; omega, HP6.out⟩⟩
             clear HR3 HP6 HK6
             go_wp2_with fail
             go_ret
             exact HF.out
end Go.Proofs.YtfifphfihdhlaaaGreatDoor
