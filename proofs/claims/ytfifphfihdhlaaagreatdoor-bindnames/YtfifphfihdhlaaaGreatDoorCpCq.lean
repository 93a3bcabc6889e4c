/- A group's columns: Index and Contains of places, resolveGroup. -/
import Derived.Test.YtfifphfihdhlaaaGreatDoorCnCo
set_option maxRecDepth 100000
set_option maxHeartbeats 32000000
namespace Go.Proofs.YtfifphfihdhlaaaGreatDoor.Bd
open Tryz
open Go.Shelf Go.RowKit Go.Lib Go.Sort
set_option linter.unusedVariables false
set_option linter.unusedSimpArgs false
attribute [local go_sem ↓] Go.wp_at_zero Go.wp_at_succ
def rInt : Rel Int := fun _ _ cs x => cs = [.int .i64 x]
theorem mInt : Mono rInt := fun _ _ _ _ _ _ _ _ h => h
theorem int_at {K : Nat → Prop} {w : World} {q : Option Addr} {n c : Nat} {l : List Int} (h : ListIs rInt 1 8 K w (.slice q n c) l) (hl : 0 < l.length) : ∃ b o, q = some ⟨b, o, none⟩ ∧ K b ∧ ∀ i (hi : i < l.length), w.cell? ⟨b, o + i, none⟩ = some (.int .i64 l[i]) := by
 obtain ⟨q', c', e, _, hp⟩ := h
 obtain ⟨b, o, rfl, hKb, hc⟩ := hp hl
 cases e
 refine ⟨b, o, rfl, hKb, fun i hi => ?_⟩
 obtain ⟨cs, _, hcell, rfl⟩ := hc i hi
 have := hcell 0 _ rfl
 rwa [Nat.mul_one, Nat.add_zero] at this
def IdxI (l : List Int) (v : Int) (e : Ending) : Prop := ∃ k : Int, e = .returned (.int .i64 k) ∧ ((0 ≤ k ∧ l.contains v = true) ∨ (k = -1 ∧ l.contains v = false))
theorem index_int (K : Nat → Prop) (q : Option Addr) (c : Nat) (l : List Int) (v : Int) (w : World) (h : ListIs rInt 1 8 K w (.slice q l.length c) l) (hK : ∀ b, K b → b < w.heap.size) :
 Calls prog 114 #[.slice q l.length c, .int .i64 v] w fun e w' => IdxI l v e ∧ Bl w w' := by
 have hbig : l.length ≤ 140737488355328 := by
  obtain ⟨q', c', -, ⟨hb, -⟩, -⟩ := h
  omega
 have HL := hid h
 have HK := hid hK
 obtain ⟨N, hN⟩ := gen l.length
 have HN := hid hN
 have HP1 : Hid (l.contains v = false → IdxI l v (.returned (.int .i64 (-1)))) := fun h => ⟨-1, rfl, .inr ⟨rfl, h⟩⟩
 have HP2 : Hid (∀ i : Nat, l.contains v = true → IdxI l v (.returned (.int .i64 (i : Int)))) := fun i h => ⟨_, rfl, .inl ⟨by omega, h⟩⟩
 rw [hN] at hbig ⊢
 clear h hK hN
 go_enter func114, ntmps114
 go_wp2_with fail
 go_loopg [8] N (fun gf s8 wx => ∃ (i : Nat), s8 = .int .i64 i ∧ i ≤ N ∧ N ≤ i + gf ∧ Hid (Bl w wx) ∧ Hid ((l.take i).contains v = false))
 case atStart => exact ⟨0, rfl, by omega, by omega, Below.refl _ _, rfl⟩
 case round =>
  obtain ⟨i, rfl, hi1, hgf, HB, HA⟩ := hrel
  by_cases hi : i < N
  · obtain ⟨g', rfl⟩ : ∃ g', gk = g' + 1 := ⟨gk - 1, by omega⟩
    have hil : i < l.length := by rw [HN.out]; exact hi
    obtain ⟨b2, o, hq, _, hc⟩ := int_at (HL.out.mono mInt (fun _ h => h) (kept_of HK.out HB.out)) (by omega)
    subst hq
    have hcell := hc i hil
    have htk : l.take (i + 1) = l.take i ++ [l[i]] := List.take_succ_eq_append_getElem hil
    have hmem : l[i] ∈ l := List.getElem_mem hil
    obtain ⟨k, hk⟩ := gen (l[i])
    rw [hk] at hcell htk hmem
    have z0 : (0 : Int) ≤ (i : Int) := by omega
    have z1 : (i : Int) < (N : Int) := by omega
    by_cases he : v = k
    · have y : (v == k) = true := by simp [he]
      have HQ := hid (HP2.out i (by rw [he]; simpa using hmem))
      clear hc htk hmem hk hil he HA HP1 HP2
      go_wp2_with fail
      go_ret
      exact ⟨HQ.out, HB.out⟩
    · have y : (v == k) = false := bfn he
      have HA2 : Hid ((l.take (i + 1)).contains v = false) := by
       show _ = _
       have := HA.out
       rw [htk]
       simp only [List.contains_eq_mem, List.mem_append, List.mem_singleton, decide_eq_false_iff_not, not_or] at this ⊢
       exact ⟨this, he⟩
      clear hc htk hmem hk hil he HA
      go_wp2_with fail
      go_roundg g'
      case measure => omega
      case rel => exact ⟨i + 1, by go_num, by omega, by omega, HB, HA2⟩
  · have z1 : ¬ (i : Int) < (N : Int) := by omega
    have HQ := hid (HP1.out (by have := HA.out; rwa [List.take_of_length_le (by rw [HN.out]; omega)] at this))
    clear HA HP1 HP2
    go_wp2_with fail
    go_ret
    exact ⟨HQ.out, HB.out⟩
theorem contains_int (K : Nat → Prop) (q : Option Addr) (c : Nat) (l : List Int) (v : Int) (w : World) (h : ListIs rInt 1 8 K w (.slice q l.length c) l) (hK : ∀ b, K b → b < w.heap.size) :
 Calls prog 72 #[.slice q l.length c, .int .i64 v] w fun e w' => e = .returned (.bool (l.contains v)) ∧ Bl w w' := by
 have CC := hid (index_int K q c l v w h hK)
 obtain ⟨N, hN⟩ := gen l.length
 obtain ⟨F, hF⟩ := gen (l.contains v)
 have HF := hid hF
 rw [hN] at CC
 rw [hN, hF]
 clear h hK hN hF
 go_enter func72, ntmps72
 go_wp2_with fail
 refine CC.out.mono ?_
 rintro e w1 ⟨⟨k, rfl, hk⟩, hb⟩
 have HB := hid hb
 rw [HF.out] at hk
 rcases hk with ⟨z, hk⟩ | ⟨rfl, hk⟩
 · subst hk
   clear hb CC
   go_wp2_with fail
   go_ret
   exact ⟨by simp [z], HB.out⟩
 · subst hk
   clear hb CC
   go_wp2_with fail
   go_ret
   exact ⟨rfl, HB.out⟩
def NewI (B : Nat) (w' : World) (m : List Int) (e : Ending) : Prop := ∃ p c, e = .returned (.slice p m.length c) ∧ ListIs rInt 1 8 (From B w') w' (.slice p m.length c) m
theorem groupGo_at (s : Scp) (acc : List Int) (l : List (List UInt8)) (i : Nat) (h : i < l.length) : groupGo s acc (l.drop i) = match colR s l[i] with
 | .error e => .error e
 | .ok p => if acc.contains (p : Int) then .error 15 else groupGo s (acc ++ [(p : Int)]) (l.drop (i + 1)) := by
 rw [List.drop_eq_getElem_cons h]
 rfl
theorem strW_at {K : Nat → Prop} {w : World} {q : Option Addr} {n c : Nat} {l : List (List UInt8)} (h : ListIs rStrW 1 16 K w (.slice q n c) l) (hl : 0 < l.length) : ∃ b o, q = some ⟨b, o, none⟩ ∧ K b ∧ ∀ i (hi : i < l.length), w.cell? ⟨b, o + i, none⟩ = some (.string ⟨(l[i]).toArray⟩) ∧ (l[i]).length ≤ 140737488355328 := by
 obtain ⟨q', c', e, _, hp⟩ := h
 obtain ⟨b, o, rfl, hKb, hc⟩ := hp hl
 cases e
 refine ⟨b, o, rfl, hKb, fun i hi => ?_⟩
 obtain ⟨cs, _, hcell, rfl, hlen⟩ := hc i hi
 have := hcell 0 _ rfl
 rw [Nat.mul_one, Nat.add_zero] at this
 exact ⟨this, hlen⟩
theorem group_any (K Kc : Nat → Prop) (s : Scp) (p : Option Addr) (d : Nat) (q : Option Addr) (c : Nat) (l : List (List UInt8)) (w : World) (h : ListIs rClm 2 24 Kc w (.slice p s.c.length d) s.c) (hKc : ∀ b, Kc b → b < w.heap.size) (h16 : s.c.length ≤ 16) (hl : ListIs rStrW 1 16 K w (.slice q l.length c) l) (hK : ∀ b, K b → b < w.heap.size) (h8 : l.length ≤ 8) :
 Calls prog 65 #[.agg (scpC s p d), .slice q l.length c] w fun e w' => Got (groupGo s [] l) (NewI w.heap.size w') e ∧ Bl w w' := by
 obtain ⟨tS, htS⟩ := bya s.t
 obtain ⟨jS, hjS⟩ := bya s.j
 obtain ⟨Nc, hNc⟩ := gen s.c.length
 obtain ⟨wd, hwd⟩ := gen s.w
 have hsc : scpC s p d = #[.string tS, .string jS, .int .i64 (wd : Int), .slice p Nc d] := by unfold scpC; rw [htS, hjS, hNc, hwd]
 obtain ⟨W0, hW0⟩ := gen (w.alloc (.cells #[.string tS, .string jS, .int .i64 (wd : Int), .slice p Nc d] 67))
 have hb0 : Bl w W0 := by rw [← hW0]; exact below_alloc _ _
 have hg0 : W0.heap[w.heap.size]? = some (.cells #[.string tS, .string jS, .int .i64 (wd : Int), .slice p Nc d] 67 (0, 0)) := by rw [← hW0]; exact heap_alloc_new w _
 have hs0 : W0.heap.size = w.heap.size + 1 := by rw [← hW0]; simp
 have HBX : Hid (∀ V, Bl W0 V → V.rangeAt w.heap.size 0 [.string tS, .string jS, .int .i64 (wd : Int), .slice p Nc d] ∧ Bl w V) := fun V hV => ⟨rgz ((hV.block _ (by omega)).trans hg0), hb0.trans (hV.mono (by omega))⟩
 have HCOL : Hid (∀ V, Bl w V → ∀ (t : List UInt8) (x : ByteArray), (⟨t.toArray⟩ : ByteArray) = x → t.length ≤ 140737488355328 → Calls prog 107 #[.agg #[.string tS, .string jS, .int .i64 (wd : Int), .slice p Nc d], .string x] V fun e w' => Got (colR s t) RetN e ∧ Bl V w') := fun V hV t x hx ht => by
  have := column_any Kc s p d t V (h.later mClm hKc hV) (fun b hb => nlt (hKc b hb) hV.size) h16 ht
  rwa [hsc, hx] at this
 have HL := hid hl
 have HK := hid hK
 obtain ⟨N, hN⟩ := gen l.length
 have HN := hid hN
 obtain ⟨R, hR⟩ := gen (groupGo s [] l)
 have HR0 : Hid (R = groupGo s [] (l.drop 0)) := hR.symm
 have HZ : Hid (W0.heap.size = w.heap.size + 1) := hs0
 rw [hN] at h8
 rw [hsc, hN, hR]
 clear h hKc h16 hl hK htS hjS hNc hwd hsc hb0 hg0 hs0 hN hR
 obtain ⟨i0, hi0, hiz, his, hib⟩ := inE_int
 go_enter func65, ntmps65
 go_wp2_with fail
 go_loopg [5, 11] N (fun gf s5 s11 wx => ∃ (i : Nat) (acc : List Int) (a : Option Addr) (cc : Nat), s5 = .slice a i cc ∧ s11 = .int .i64 i ∧ i ≤ N ∧ N ≤ i + gf ∧ Hid (acc.length = i) ∧ Hid (Bl W0 wx) ∧ Hid (OwnR rInt 1 3 W0.heap.size wx (.slice a i cc) acc) ∧ Hid (R = groupGo s acc (l.drop i)))
 case atStart => exact ⟨0, [], none, 0, rfl, rfl, by omega, by omega, rfl, Below.refl _ _, OwnR.none (World.ownsRow_nil _ _ _ _), HR0⟩
 case round =>
  clear HR0
  obtain ⟨i, acc, a, cc, rfl, rfl, hi1, hgf, HA, HB, HO, HR⟩ := hrel
  by_cases hi : i < N
  · obtain ⟨g', rfl⟩ : ∃ g', gk = g' + 1 := ⟨gk - 1, by omega⟩
    have hil : i < l.length := by rw [HN.out]; exact hi
    obtain ⟨hsr, hbw⟩ := HBX.out wr HB.out
    obtain ⟨b, o, hq, _, hc⟩ := strW_at (HL.out.mono mStrW (fun _ h => h) (kept_of HK.out hbw)) (by omega)
    subst hq
    obtain ⟨c0, hlen⟩ := hc i hil
    have hat := groupGo_at s acc l i hil
    obtain ⟨x, hx⟩ := gen (l[i])
    rw [hx] at c0 hlen hat
    obtain ⟨xS, hxS⟩ := bya x
    rw [hxS] at c0
    have HSR := hid hsr
    have C1 := hid (HCOL.out wr hbw x xS hxS hlen)
    obtain ⟨cr, hcr⟩ := gen (colR s x)
    rw [hcr] at C1 hat
    have HAT := hid (HR.out.trans hat)
    have z0 : (0 : Int) ≤ (i : Int) := by omega
    have z1 : (i : Int) < (N : Int) := by omega
    clear hc hil hlen hat hx hxS hcr hsr hbw HR
    go_wp2_with (refine wpList_load_mid rfl 67 _ rfl w.heap.size 0 rfl _ _ HSR.out underlying67 rfl sz_scp ?_)
    refine C1.out.mono ?_
    rintro e w1 ⟨hgot, hb1⟩
    have HB1 : Hid (Bl W0 w1) := HB.out.trans (hb1.mono HB.out.size)
    have HO1 : Hid (OwnR rInt 1 3 W0.heap.size w1 (.slice a i cc) acc) := HO.out.keep mInt hb1
    have HBW1 := hid (HBX.out w1 HB1.out).2
    clear C1 hb1 HO HSR
    cases cr with
    | error z =>
     have he : e = stopE z := hgot
     subst he
     have HQ : Hid (Got R (NewI w.heap.size w1) (stopE z)) := by show Got _ _ _; rw [HAT.out]; rfl
     clear hgot HAT HO1
     unfold stopE at HQ ⊢
     go_wp2_with fail
     exact ⟨rfl, HQ.out, HBW1.out⟩
    | ok n =>
     have he : e = .returned (.int .i64 (n : Int)) := hgot
     subst he
     have hacc : acc.length = i := HA.out
     obtain ⟨p2, c2, e2, hli⟩ := HO1.out.list (bytes := 8) mInt (by omega)
     have e3 : p2 = a ∧ c2 = cc := by injection e2 with h1 h2 h3; exact ⟨h1.symm, h3.symm⟩
     obtain ⟨ea, ec⟩ := e3
     rw [ea, ec] at hli
     clear e2 ea ec
     have C2 : Hid (Calls prog 72 #[.slice a i cc, .int .i64 (n : Int)] w1 fun e w' => e = .returned (.bool (acc.contains (n : Int))) ∧ Bl w1 w') := by
      have := contains_int _ a cc acc (n : Int) w1 hli From.lt
      rwa [hacc] at this
     obtain ⟨F, hF⟩ := gen (acc.contains (n : Int))
     have HAT2 : Hid (R = if F = true then .error 15 else groupGo s (acc ++ [(n : Int)]) (l.drop (i + 1))) := by show _ = _; rw [HAT.out]; simp only; rw [hF]
     rw [hF] at C2
     clear hgot HAT hli hF
     go_wp2_with fail
     refine C2.out.mono ?_
     rintro e w2 ⟨rfl, hb2⟩
     have HB2 : Hid (Bl W0 w2) := HB1.out.trans (hb2.mono HB1.out.size)
     have hO2 := HO1.out.keep mInt hb2
     have HBW2 := hid (HBX.out w2 HB2.out).2
     cases F with
     | true =>
      have HQ : Hid (Got R (NewI w.heap.size w2) (stopE 15)) := by show Got _ _ _; rw [HAT2.out, if_pos rfl]; rfl
      clear HAT2 C2 hb2 hO2 HO1
      unfold stopE at HQ
      go_wp2_with fail
      exact ⟨rfl, HQ.out, HBW2.out⟩
     | false =>
      obtain ⟨v', X3, e3, ho3, hB3, hs3, hk3⟩ := hO2.push mInt (bytes := 8) (ts := 29) underlying29 hi0 hiz his hib rfl (by omega) HB2.out.size (x := (n : Int)) (cs := [.int .i64 (n : Int)]) (K2 := fun _ => False) rfl (by intro c hc; simp at hc; subst hc; rfl) (fun b hb => hb.elim) rfl (by omega) (by unfold maxLen; omega)
      obtain ⟨a3, c3, ev⟩ := ho3.slice
      rw [List.length_append, hacc] at ev
      have ev2 : v' = .slice a3 (i + 1) c3 := ev
      subst ev2
      have HE3 := hid e3
      have HB3 : Hid (Bl W0 X3) := hB3 _ _ HB2.out (Nat.le_refl _)
      have HO3 : Hid (OwnR rInt 1 3 W0.heap.size X3 (.slice a3 (i + 1) c3) (acc ++ [(n : Int)])) := ho3
      have HA3 : Hid ((acc ++ [(n : Int)]).length = i + 1) := by show _ = _; rw [List.length_append, hacc]; rfl
      have HR3 : Hid (R = groupGo s (acc ++ [(n : Int)]) (l.drop (i + 1))) := by show _ = _; rw [HAT2.out, if_neg (by simp)]
      clear HAT2 C2 hb2 hO2 HO1 e3 ho3 hB3 hs3 hk3 ev hacc HA
      go_wp2_with (at_builtin; refine Lib.wpList_append_run _ rfl _ _ _ _ rfl (.slice a i cc) (.slice (some ⟨w2.heap.size, 0, none⟩) 1 1) rfl rfl _ _ HE3.out ?_)
      go_roundg g'
      case measure => omega
      case rel => exact ⟨i + 1, acc ++ [(n : Int)], a3, c3, rfl, by go_num, by omega, by omega, HA3, HB3, HO3, HR3⟩
  · have z1 : ¬ (i : Int) < (N : Int) := by omega
    have HBW := hid (HBX.out wr HB.out).2
    have HQ : Hid (Got R (NewI w.heap.size wr) (.returned (.slice a i cc))) := by
     show Got _ _ _
     have hacc := HA.out
     rw [HR.out, List.drop_of_length_le (by rw [HN.out]; omega)]
     obtain ⟨p2, c2, e2, hli⟩ := HO.out.list (bytes := 8) mInt (by omega)
     have e3 : p2 = a ∧ c2 = cc := by injection e2 with h1 h2 h3; exact ⟨h1.symm, h3.symm⟩
     obtain ⟨ea, ec⟩ := e3
     rw [ea, ec] at hli
     exact ⟨a, cc, by rw [hacc], hli.less mInt (by have := HZ.out; omega)⟩
    clear HR HA HO
    go_wp2_with fail
    go_ret
    exact ⟨HQ.out, HBW.out⟩
def IdxB (b : Bool) (e : Ending) : Prop := ∃ k : Int, e = .returned (.int .i64 k) ∧ ((0 ≤ k ∧ b = true) ∨ (k = -1 ∧ b = false))
theorem enters110 : ∀ args w, (callFunc 110 args).run prog w = .ok (.enter 110 args) w := enters_of func110 (by kernel_rfl) rfl
theorem index_agg (P : Itm → Bool) (K : Nat → Prop) (q : Option Addr) (c : Nat) (l : List Itm) (w : World) (h : ListIs rItmW 2 32 K w (.slice q l.length c) l) (hK : ∀ b, K b → b < w.heap.size) (hcl : ∀ V, Bl w V → ∀ x ∈ l, ∀ p' c', ListIs rStpW 3 32 K V (.slice p' x.e.length c') x.e → Calls prog 110 #[.agg #[.int .u8 (x.g : Int), .slice p' x.e.length c']] V fun e w' => e = .returned (.bool (P x)) ∧ Bl V w') :
 Calls prog 115 #[.slice q l.length c, .func (.func 110) #[] #[]] w fun e w' => IdxB (l.any P) e ∧ Bl w w' := by
 have hbig : l.length ≤ 140737488355328 := by
  obtain ⟨q', c', -, ⟨hb, -⟩, -⟩ := h
  omega
 have eg := enters110
 have HL := hid h
 have HK := hid hK
 have HCL := hid hcl
 obtain ⟨N, hN⟩ := gen l.length
 have HN := hid hN
 have HP1 : Hid (l.any P = false → IdxB (l.any P) (.returned (.int .i64 (-1)))) := fun h => ⟨-1, rfl, .inr ⟨rfl, h⟩⟩
 have HP2 : Hid (∀ i : Nat, l.any P = true → IdxB (l.any P) (.returned (.int .i64 (i : Int)))) := fun i h => ⟨_, rfl, .inl ⟨by omega, h⟩⟩
 obtain ⟨F, hF⟩ := gen (l.any P)
 have HF := hid hF
 rw [hF] at HP1 HP2
 rw [hN] at hbig
 rw [hN, hF]
 clear h hK hcl hN hF
 go_enter func115, ntmps115
 go_wp2_with fail
 go_loopg [8] N (fun gf s8 wx => ∃ (i : Nat), s8 = .int .i64 i ∧ i ≤ N ∧ N ≤ i + gf ∧ Hid (Bl w wx) ∧ Hid ((l.take i).any P = false))
 case atStart => exact ⟨0, rfl, by omega, by omega, Below.refl _ _, rfl⟩
 case round =>
  obtain ⟨i, rfl, hi1, hgf, HB, HA⟩ := hrel
  by_cases hi : i < N
  · obtain ⟨g', rfl⟩ : ∃ g', gk = g' + 1 := ⟨gk - 1, by omega⟩
    have hil : i < l.length := by rw [HN.out]; exact hi
    obtain ⟨b2, o, hq, _, hc⟩ := itm_w (HL.out.mono mItmW (fun _ h => h) (kept_of HK.out HB.out)) (by omega)
    subst hq
    obtain ⟨p', c', hrg, hli, -⟩ := hc i hil
    have htk : l.take (i + 1) = l.take i ++ [l[i]] := List.take_succ_eq_append_getElem hil
    have CC := hid (HCL.out wr HB.out l[i] (List.getElem_mem hil) p' c' hli)
    have hmem : l[i] ∈ l := List.getElem_mem hil
    obtain ⟨y, hy⟩ := gen (l[i])
    rw [hy] at hrg htk CC hmem
    obtain ⟨M, hM⟩ := gen y.e.length
    obtain ⟨gi, hgi⟩ : ∃ g : Int, (y.g : Int) = g := ⟨_, rfl⟩
    rw [hM, hgi] at hrg CC
    have HRG := hid hrg
    have HTK : Hid (l.take (i + 1) = l.take i ++ [y]) := htk
    have HM : Hid (y ∈ l) := hmem
    have z0 : (0 : Int) ≤ (i : Int) := by omega
    have z1 : (i : Int) < (N : Int) := by omega
    clear hc htk hmem hy hil hrg hM hgi hli
    go_wp2_with (refine wpList_load_mid rfl 42 _ rfl b2 (o + i * 2) rfl _ _ HRG.out underlying42 rfl sz_item ?_)
    refine CC.out.mono ?_
    rintro e w3 ⟨rfl, hb3⟩
    have HB3 : Hid (Bl w w3) := HB.out.trans (hb3.mono HB.out.size)
    clear CC hb3 HRG
    cases hpy : P y with
    | true =>
     have hT : l.any P = true := List.any_eq_true.2 ⟨y, HM.out, hpy⟩
     have hFt : F = true := by rw [← HF.out]; exact hT
     have HQ := hid (HP2.out i hFt)
     clear hpy HA hT hFt HP1 HP2
     go_wp2_with fail
     go_ret
     exact ⟨HQ.out, HB3.out⟩
    | false =>
     have HA2 : Hid ((l.take (i + 1)).any P = false) := by
      show _ = _
      rw [HTK.out, List.any_append, HA.out]
      simp [hpy]
     clear hpy HA
     go_wp2_with fail
     go_roundg g'
     case measure => omega
     case rel => exact ⟨i + 1, by go_num, by omega, by omega, HB3, HA2⟩
  · have z1 : ¬ (i : Int) < (N : Int) := by omega
    have hFf : F = false := by
     rw [← HF.out]
     have := HA.out
     rwa [List.take_of_length_le (by rw [HN.out]; omega)] at this
    have HQ := hid (HP1.out hFf)
    clear HA HP1 HP2 hFf
    go_wp2_with fail
    go_ret
    exact ⟨HQ.out, HB.out⟩
theorem contains_agg (P : Itm → Bool) (K : Nat → Prop) (q : Option Addr) (c : Nat) (l : List Itm) (w : World) (h : ListIs rItmW 2 32 K w (.slice q l.length c) l) (hK : ∀ b, K b → b < w.heap.size) (hcl : ∀ V, Bl w V → ∀ x ∈ l, ∀ p' c', ListIs rStpW 3 32 K V (.slice p' x.e.length c') x.e → Calls prog 110 #[.agg #[.int .u8 (x.g : Int), .slice p' x.e.length c']] V fun e w' => e = .returned (.bool (P x)) ∧ Bl V w') :
 Calls prog 73 #[.slice q l.length c, .func (.func 110) #[] #[]] w fun e w' => e = .returned (.bool (l.any P)) ∧ Bl w w' := by
 have CC := hid (index_agg P K q c l w h hK hcl)
 obtain ⟨N, hN⟩ := gen l.length
 obtain ⟨F, hF⟩ := gen (l.any P)
 rw [hN, hF] at CC
 rw [hN, hF]
 clear h hK hcl hN hF
 go_enter func73, ntmps73
 go_wp2_with fail
 refine CC.out.mono ?_
 rintro e w1 ⟨⟨k, rfl, hk⟩, hb⟩
 have HB := hid hb
 rcases hk with ⟨z, hk⟩ | ⟨rfl, hk⟩
 · subst hk
   clear hb CC
   go_wp2_with fail
   go_ret
   exact ⟨by simp [z], HB.out⟩
 · subst hk
   clear hb CC
   go_wp2_with fail
   go_ret
   exact ⟨rfl, HB.out⟩
theorem agg1_any (g : Nat) (v : Value) (w : World) : Calls prog 110 #[.agg #[.int .u8 (g : Int), v]] w fun e w' => e = .returned (.bool (decide (g ≠ 0))) ∧ Bl w w' := by
 obtain ⟨W0, hW0⟩ := gen (w.alloc (.cells #[.int .u8 (g : Int), v] 42))
 have hb0 : Bl w W0 := by rw [← hW0]; exact below_alloc _ _
 have hg0 : W0.heap[w.heap.size]? = some (.cells #[.int .u8 (g : Int), v] 42 (0, 0)) := by rw [← hW0]; exact heap_alloc_new w _
 have c0 := cell_of_row (k := 0) (v := .int .u8 (g : Int)) hg0 rfl
 have HB := hid hb0
 obtain ⟨F, hF⟩ := gen (((g : Int) != 0))
 have HF : Hid (decide (g ≠ 0) = F) := by
  show _ = _
  rw [← hF]
  by_cases e : g = 0
  · subst e; rfl
  · rw [decide_eq_true e]; exact (bne_iff_ne.2 (by omega)).symm
 rw [HF.out]
 clear hb0 hg0
 go_enter func110, ntmps110
 go_wp2_with fail
 go_ret
 exact ⟨rfl, HB.out⟩
theorem grouped_any (K : Nat → Prop) (n : Nat) (q : Option Addr) (c : Nat) (l : List Itm) (w : World) (h : ListIs rItmW 2 32 K w (.slice q l.length c) l) (hK : ∀ b, K b → b < w.heap.size) :
 Calls prog 66 #[.int .i64 (n : Int), .slice q l.length c] w fun e w' => e = .returned (.bool (isGroupedP n l)) ∧ Bl w w' := by
 have CC := hid (contains_agg (fun x => decide (x.g ≠ 0)) K q c l w h hK (fun V hV x hx p' c' hli => agg1_any x.g _ V))
 obtain ⟨N, hN⟩ := gen l.length
 obtain ⟨F, hF⟩ := gen (l.any (fun x => decide (x.g ≠ 0)))
 have HR : Hid (isGroupedP n l = (decide (0 < n) || F)) := by show _ = _; unfold isGroupedP; rw [hF]
 obtain ⟨R, hR⟩ := gen (isGroupedP n l)
 rw [hR] at HR ⊢
 rw [hN, hF] at CC
 rw [hN]
 clear h hK hN hF hR
 by_cases h0 : 0 < n
 · have y : (0 : Int) < (n : Int) := by omega
   have HE : Hid (R = true) := by show _ = _; rw [HR.out, decide_eq_true h0]; rfl
   clear HR h0 CC
   go_enter func66, ntmps66
   go_wp2_with fail
   go_ret
   exact ⟨by rw [HE.out]; try rfl, Below.refl _ _⟩
 · have y : ¬ (0 : Int) < (n : Int) := by omega
   have HE : Hid (R = F) := by show _ = _; rw [HR.out, decide_eq_false h0]; rfl
   clear HR h0
   go_enter func66, ntmps66
   go_wp2_with fail
   refine CC.out.mono ?_
   rintro e w1 ⟨rfl, hb⟩
   have HB := hid hb
   clear CC hb
   go_wp2_with fail
   go_ret
   exact ⟨by rw [HE.out]; try rfl, HB.out⟩
end Go.Proofs.YtfifphfihdhlaaaGreatDoor.Bd
