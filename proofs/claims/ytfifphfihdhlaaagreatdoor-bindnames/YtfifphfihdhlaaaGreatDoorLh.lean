/- What readText answers: the token of the quoted text at a place, and the place behind it. -/
import Derived.Test.YtfifphfihdhlaaaGreatDoorLg
set_option maxRecDepth 100000
set_option maxHeartbeats 32000000
namespace Go.Proofs.YtfifphfihdhlaaaGreatDoor
open Tryz
open Go.RowKit Go.Lib Go.Sort
set_option linter.unusedVariables false
theorem builder_agree {T e : TypeId} {B b : Nat} {bs : List Value} {w w' : World} (h : Lib.IsBuilderF T e B b bs w)
 (hb : w'.heap[b]? = w.heap[b]?) (hg : ∀ (g : Nat) (cur : Array Value) (fz : Nat × Nat), w.heap[g]? = some (Obj.cells cur e fz) → w'.heap[g]? = w.heap[g]?) : Lib.IsBuilderF T e B b bs w' := by
 have one : ∀ p, Lib.BuilderAtF T e B b p bs w → Lib.BuilderAtF T e B b p bs w' := by
  rintro p ⟨hB, v, h1, ⟨h2, h3⟩, h4⟩
  refine ⟨hB, v, hb.trans h1, ⟨h2, ?_⟩, h4⟩
  rcases h3 with h3 | ⟨g, cap, cur, fz, e1, e2, e3, e4⟩
  · exact .inl h3
  · exact .inr ⟨g, cap, cur, fz, e1, e2, (hg g cur fz e3).trans e3, e4⟩
 exact h.elim (fun x => .inl (one _ x)) (fun x => .inr (one _ x))
theorem builder_lt {T e : TypeId} {B b : Nat} {bs : List Value} {w : World} (h : Lib.IsBuilderF T e B b bs w) : b < w.heap.size := h.elim (fun x => x.lt) (fun x => x.lt)
theorem builder_below {T e : TypeId} {B b : Nat} {bs : List Value} {w w' : World} (h : Lib.IsBuilderF T e B b bs w) (hb : Below w.heap.size w w') : Lib.IsBuilderF T e B b bs w' :=
 builder_agree h (hb.block _ (builder_lt h)) (fun g cur fz hg => hb.block _ (gsi hg).1)
theorem builder_letter {B b : Nat} {bs : List Value} {w : World} (h : Lib.IsBuilderF 198 5 B b bs w) {k : Nat} {cs : Array Value} (hk : w.heap[k]? = some (.cells cs 184 (0, 0))) (i : Nat) (v : Value) : Lib.IsBuilderF 198 5 B b bs (w.setCell ⟨k, i, none⟩ v) := by
 have hne : b ≠ k := by
  rintro rfl
  rcases h with ⟨_, _, h1, _⟩ | ⟨_, _, h1, _⟩ <;> (rw [hk] at h1; simp at h1)
 refine builder_agree h (Below.heap_setCell _ _ _ _ hne) (fun g cur fz hg => Below.heap_setCell _ _ _ _ ?_)
 rintro rfl
 rw [hk] at hg
 simp at hg
theorem hexGo_pos : ∀ (n : Nat) (x : Int) (l : List Let), 0 ≤ x → 0 ≤ (hexGo n x l).1
 | 0, x, l, h => by simpa [hexGo] using h
 | n + 1, x, [], h => by simpa [hexGo] using h
 | n + 1, x, c :: l, h => by
  unfold hexGo
  cases hv : hexV c.1 with
  | none => exact h
  | some d => have := hexV_lt hv; exact hexGo_pos n _ l (by omega)
theorem hexEsc_le {l : List Let} {p : Int × Nat} (h : hexEsc l = some p) : p.2 ≤ l.length ∧ 0 ≤ p.1 ∧ p.1 ≤ 1114111 := by
 cases l with
 | nil => cases h
 | cons c l =>
  simp only [hexEsc] at h
  split at h
  · cases h
  have hl := (hexGo_le 6 0 l).2
  cases hd : l.drop (hexGo 6 0 l).2 with
  | nil => rw [hd] at h; cases h
  | cons d r =>
   rw [hd] at h
   simp only at h
   split at h
   · cases h
   rename_i hn
   have hlt : (hexGo 6 0 l).2 < l.length := by
    have := congrArg List.length hd
    rw [List.length_drop] at this
    simp at this
    omega
   simp only [Option.some.injEq] at h
   subst h
   simp only [not_or, Bool.not_eq_false] at hn
   refine ⟨by simp; omega, ?_, ?_⟩
   · exact hexGo_pos 6 0 l (Int.le_refl _)
   · have := hn.2.2
     simp [isRuneP] at this
     exact this.1
theorem escL_le {l : List Let} {p : Int × Nat} (h : escL l = some p) : 1 ≤ p.2 ∧ p.2 ≤ l.length ∧ -2147483648 ≤ p.1 ∧ p.1 ≤ 2147483647 := by
 cases l with
 | nil => cases h
 | cons c l =>
  simp only [escL] at h
  split at h
  · cases hh : hexEsc l with
    | none => rw [hh] at h; cases h
    | some q =>
     rw [hh] at h
     simp at h
     subst h
     have := hexEsc_le hh
     simp
     omega
  · split at h
    · simp only [Option.some.injEq] at h; subst h; simp
    split at h
    · simp only [Option.some.injEq] at h; subst h; simp
    split at h
    · simp only [Option.some.injEq] at h; subst h; simp
    split at h
    · simp only [Option.some.injEq] at h; subst h; simp
    · cases h
def textL : Nat → List Let → Option (Bool × List UInt8 × Nat)
 | 0, _ => none
 | _ + 1, [] => none
 | f + 1, x :: l => if x.1 = 34 then some (false, [], 0)
  else if x.1 = 92 then (match escL l with
   | none => none
   | some p => (textL f (l.drop p.2)).map fun y => (x.2 || y.1, Lib.encodeRune p.1 ++ y.2.1, p.2 + 1 + y.2.2))
  else (textL f l).map fun y => (x.2 || y.1, Lib.encodeRune x.1 ++ y.2.1, 1 + y.2.2)
def textAns (ls : List Let) (at0 : Nat) : Ans := match textL (ls.length + 1) (ls.drop (at0 + 1)) with
 | none => ⟨noTok, 0, 13⟩
 | some p => if p.1 then ⟨noTok, 0, 9⟩ else if 256 < p.2.1.length then ⟨noTok, 0, 4⟩ else ⟨⟨5, p.2.1, 0, at0⟩, ((at0 + 1 + p.2.2 + 1 : Nat) : Int), 0⟩
theorem textL_stop (f : Nat) (ls : List Let) (q : Nat) (h : q < ls.length) (h34 : ls[q].1 = 34) : textL (f + 1) (ls.drop q) = some (false, [], 0) := by
 rw [drop_at ls q h]; simp [textL, h34]
theorem textL_plain (f : Nat) (ls : List Let) (q : Nat) (h : q < ls.length) (h34 : ls[q].1 ≠ 34) (h92 : ls[q].1 ≠ 92) :
 textL (f + 1) (ls.drop q) = (textL f (ls.drop (q + 1))).map fun y => (ls[q].2 || y.1, Lib.encodeRune ls[q].1 ++ y.2.1, 1 + y.2.2) := by
 rw [drop_at ls q h]; simp [textL, h34, h92]
theorem textL_none (f : Nat) (ls : List Let) (q : Nat) (h : q < ls.length) (h92 : ls[q].1 = 92) (he : escL (ls.drop (q + 1)) = none) : textL (f + 1) (ls.drop q) = none := by
 rw [drop_at ls q h]; simp [textL, h92, he]
theorem textL_esc (f : Nat) (ls : List Let) (q : Nat) (h : q < ls.length) (h92 : ls[q].1 = 92) (p : Int × Nat) (he : escL (ls.drop (q + 1)) = some p) :
 textL (f + 1) (ls.drop q) = (textL f (ls.drop (q + 1 + p.2))).map fun y => (ls[q].2 || y.1, Lib.encodeRune p.1 ++ y.2.1, p.2 + 1 + y.2.2) := by
 rw [drop_at ls q h]; simp [textL, h92, he, List.drop_drop]
def textRest (f : Nat) (l : List Let) (bd : Bool) (acc : List UInt8) (m : Nat) : Option (Bool × List UInt8 × Nat) := (textL f l).map fun y => (bd || y.1, acc ++ y.2.1, m + y.2.2)
theorem readText_any (b c at0 : Nat) (ls : List Let) (w : World) (hl : LetsAt w b ls) (hb : b < w.heap.size) (hn : ls.length ≤ 2048) (hr : ∀ x ∈ ls, -2147483648 ≤ x.1 ∧ x.1 ≤ 2147483647) (hat : at0 < ls.length) :
 Calls prog 147 #[.slice (some ⟨b, 0, none⟩) ls.length c, .int .i64 at0] w fun e w' => e = .returned (textAns ls at0).v ∧ Below w.heap.size w w' := by
 have HL : Hid (∀ W, Below w.heap.size w W → LetsAt W b ls) := fun W h j hj => by
  obtain ⟨h1, h2⟩ := hl j hj
  rw [← h.cell (p := ⟨b, _, none⟩) hb] at h1 h2
  exact ⟨h1, h2⟩
 have CE : Hid (∀ q W, q ≤ ls.length → Below w.heap.size w W → Calls prog 161 #[.slice (some ⟨b, 0, none⟩) ls.length c, .int .i64 ((q : Nat) : Int)] W fun e w' => e = .returned (escV q (escL (ls.drop q))) ∧ Below W.heap.size W w') := fun q W hq h => readEscape_any b c q ls W (HL.out W h) (nlt hb h.size) hn hr hq
 have HR : Hid (∀ x ∈ ls, -2147483648 ≤ x.1 ∧ x.1 ≤ 2147483647) := hr
 obtain ⟨ans, hans⟩ := gen (textAns ls at0)
 have HAN : Hid (textAns ls at0 = ans) := hans
 rw [hans]
 clear hans hl hr
 have W0B : Hid (Below w.heap.size w (w.alloc (tokO 0 ⟨#[]⟩ 0 0))) := (Below.refl _ w).alloc (Nat.le_refl _) _
 go_enter func147, ntmps147
 go_wp2_with fail
 go_loopg [8, 9] (ls.length + 1) (fun gf s8 s9 wx => ∃ (m : Nat) (bd : Bool) (acc : List UInt8) (f : Nat), s9 = .int .i64 ((at0 + 1 + m : Nat) : Int) ∧ s8 = .bool bd ∧ Lib.IsBuilderF 198 5 (w.heap.size + 1) (w.heap.size + 1) (Lib.byteCells acc) wx ∧ Below (w.heap.size + 1) (w.alloc (tokO 0 ⟨#[]⟩ 0 0)) wx ∧ at0 + 1 + m ≤ ls.length ∧
  Hid (textRest f (ls.drop (at0 + 1 + m)) bd acc m = textL (ls.length + 1) (ls.drop (at0 + 1))) ∧ acc.length ≤ 4 * m ∧ ls.length < at0 + 1 + m + f ∧ ls.length < at0 + 1 + m + gf)
 case atStart =>
  refine ⟨0, false, [], ls.length + 1, by go_num, rfl, ?_, ?_, by omega, ?_, by simp, by omega, by omega⟩
  · have := Lib.IsBuilderF.of (Lib.fresh_isBuilder 198 5 (w.alloc (tokO 0 ⟨#[]⟩ 0 0)))
    simpa [Lib.byteCells, tokO] using this
  · have := (Below.refl (w.alloc (tokO 0 ⟨#[]⟩ 0 0)).heap.size (w.alloc (tokO 0 ⟨#[]⟩ 0 0))).alloc (Nat.le_refl _) (.cells #[.pointer none, .slice none 0 0] 198)
    simpa [tokO] using this
  · show _ = _
    simp [textRest]
 case round =>
  obtain ⟨m, bd, acc, f, rfl, rfl, hI, hbw, hm, HS, hal, hf, hgf⟩ := hrel
  obtain ⟨q, hq⟩ := gen (at0 + 1 + m)
  rw [hq] at hm HS hf hgf ⊢
  have HBw : Hid (Below w.heap.size w wr) := W0B.out.trans (hbw.mono (by omega))
  have hsz : w.heap.size + 1 ≤ wr.heap.size := by have := hbw.size; simpa using this
  have hbl : Hid (wr.heap[w.heap.size]? = some (tokO 0 ⟨#[]⟩ 0 0)) := (hbw.block _ (by omega)).trans (own_new w _)
  have y0 : (0 : Int) ≤ (q : Int) := by omega
  by_cases hlt : q < ls.length
  · have y1 : (q : Int) < (ls.length : Int) := by omega
    obtain ⟨x0, x1⟩ := HL.out _ HBw.out q hlt
    have hR := HR.out _ (List.getElem_mem hlt)
    obtain ⟨f', rfl⟩ : ∃ f', f = f' + 1 := ⟨f - 1, by omega⟩
    by_cases h34 : ls[q].1 = 34
    · have hS := HS.out
      rw [textRest, textL_stop f' ls q hlt h34] at hS
      have hA : ans = if bd then ⟨noTok, 0, 9⟩ else if 256 < acc.length then ⟨noTok, 0, 4⟩ else ⟨⟨5, acc, 0, at0⟩, ((q + 1 : Nat) : Int), 0⟩ := by
       rw [← HAN.out, textAns, ← hS]
       simp [hq]
      rw [h34] at x0
      clear hS HS HAN HL HR CE hR
      have ny1 : ¬ (ls.length : Int) ≤ (q : Int) := by omega
      cases bd with
      | true =>
       rw [if_pos rfl] at hA
       subst hA
       have hblx := hbl
       have a0 : wr.cell? ⟨w.heap.size, 0, none⟩ = some (.int .u8 0) := (tok_cells hblx.out).1
       have a1 : wr.cell? ⟨w.heap.size, 1, none⟩ = some (.string ⟨#[]⟩) := (tok_cells hblx.out).2.1
       have a2 : wr.cell? ⟨w.heap.size, 2, none⟩ = some (.int .i64 0) := (tok_cells hblx.out).2.2.1
       have a3 : wr.cell? ⟨w.heap.size, 3, none⟩ = some (.int .i64 0) := (tok_cells hblx.out).2.2.2.1
       have f0 : wr.frozen? ⟨w.heap.size, 0, none⟩ = false := (tok_cells hblx.out).2.2.2.2.1
       have f1 : wr.frozen? ⟨w.heap.size, 1, none⟩ = false := (tok_cells hblx.out).2.2.2.2.2.1
       have f2 : wr.frozen? ⟨w.heap.size, 2, none⟩ = false := (tok_cells hblx.out).2.2.2.2.2.2.1
       have f3 : wr.frozen? ⟨w.heap.size, 3, none⟩ = false := (tok_cells hblx.out).2.2.2.2.2.2.2
       go_wp2_with fail
       obtain ⟨d0', d1', d2', d3', _⟩ := tok_cells (setTok_at hblx.out 0 ⟨#[]⟩ 0 0)
       have HBt : Hid (Below w.heap.size w (setTok wr w.heap.size 0 ⟨#[]⟩ 0 0)) := setTok_below HBw.out (Nat.le_refl _) _ _ _ _
       generalize hW : setTok wr w.heap.size 0 ⟨#[]⟩ 0 0 = W4 at d0' d1' d2' d3' HBt
       unfold setTok at hW
       rw [hW]
       exact bodyPost_ret (v := .tuple #[.agg #[.int .u8 0, .string ⟨#[]⟩, .int .i64 0, .int .i64 0], .int .i64 0, .int .i64 9]) (by simp [results, results147, go_sem, d0', d1', d2', d3']) rfl ⟨rfl, HBt.out⟩
      | false =>
       rw [if_neg (by simp)] at hA
       have cl := Tryz.Builder_Len_f (w.heap.size + 1) (w.heap.size + 1) _ wr hI
       rw [Lib.byteCells_length] at cl
       have CL : Hid (Calls prog 163 #[.pointer (some ⟨w.heap.size + 1, 0, none⟩)] wr fun e w' => e = .returned (.int .i64 acc.length) ∧ w' = wr) := cl
       have cs := Tryz.Builder_String_any_k (w.heap.size + 1) (w.heap.size + 1) acc wr hI (by omega)
       have CS : Hid (Calls prog 164 #[.pointer (some ⟨w.heap.size + 1, 0, none⟩)] wr fun e w' => e = .returned (.string ⟨acc.toArray⟩) ∧ Below (w.heap.size + 1) wr w') := cs.mono fun _ _ h => ⟨h.1, h.2.2.1⟩
       clear cl cs hI
       by_cases h256 : 256 < acc.length
       · rw [if_pos h256] at hA
         subst hA
         have t1 : (256 : Int) < (acc.length : Int) := by omega
         have hblx := hbl
         have a0 : wr.cell? ⟨w.heap.size, 0, none⟩ = some (.int .u8 0) := (tok_cells hblx.out).1
         have a1 : wr.cell? ⟨w.heap.size, 1, none⟩ = some (.string ⟨#[]⟩) := (tok_cells hblx.out).2.1
         have a2 : wr.cell? ⟨w.heap.size, 2, none⟩ = some (.int .i64 0) := (tok_cells hblx.out).2.2.1
         have a3 : wr.cell? ⟨w.heap.size, 3, none⟩ = some (.int .i64 0) := (tok_cells hblx.out).2.2.2.1
         have f0 : wr.frozen? ⟨w.heap.size, 0, none⟩ = false := (tok_cells hblx.out).2.2.2.2.1
         have f1 : wr.frozen? ⟨w.heap.size, 1, none⟩ = false := (tok_cells hblx.out).2.2.2.2.2.1
         have f2 : wr.frozen? ⟨w.heap.size, 2, none⟩ = false := (tok_cells hblx.out).2.2.2.2.2.2.1
         have f3 : wr.frozen? ⟨w.heap.size, 3, none⟩ = false := (tok_cells hblx.out).2.2.2.2.2.2.2
         go_wp2_with fail
         refine CL.out.mono ?_
         rintro e w2 ⟨rfl, rfl⟩
         go_wp2_with fail
         obtain ⟨d0', d1', d2', d3', _⟩ := tok_cells (setTok_at hblx.out 0 ⟨#[]⟩ 0 0)
         have HBt : Hid (Below w.heap.size w (setTok w2 w.heap.size 0 ⟨#[]⟩ 0 0)) := setTok_below HBw.out (Nat.le_refl _) _ _ _ _
         generalize hW : setTok w2 w.heap.size 0 ⟨#[]⟩ 0 0 = W4 at d0' d1' d2' d3' HBt
         unfold setTok at hW
         rw [hW]
         exact bodyPost_ret (v := .tuple #[.agg #[.int .u8 0, .string ⟨#[]⟩, .int .i64 0, .int .i64 0], .int .i64 0, .int .i64 4]) (by simp [results, results147, go_sem, d0', d1', d2', d3']) rfl ⟨rfl, HBt.out⟩
       · rw [if_neg h256] at hA
         subst hA
         have t1 : ¬ (256 : Int) < (acc.length : Int) := by omega
         go_wp2_with fail
         refine CL.out.mono ?_
         rintro e w2 ⟨rfl, rfl⟩
         go_wp2_with fail
         refine CS.out.mono ?_
         rintro e w3 ⟨rfl, hb3⟩
         have hblx : Hid (w3.heap[w.heap.size]? = some (tokO 0 ⟨#[]⟩ 0 0)) := (hb3.block _ (by omega)).trans hbl.out
         have HB3 : Hid (Below w.heap.size w w3) := HBw.out.trans (hb3.mono (by omega))
         clear hb3
         have a0 : w3.cell? ⟨w.heap.size, 0, none⟩ = some (.int .u8 0) := (tok_cells hblx.out).1
         have a1 : w3.cell? ⟨w.heap.size, 1, none⟩ = some (.string ⟨#[]⟩) := (tok_cells hblx.out).2.1
         have a2 : w3.cell? ⟨w.heap.size, 2, none⟩ = some (.int .i64 0) := (tok_cells hblx.out).2.2.1
         have a3 : w3.cell? ⟨w.heap.size, 3, none⟩ = some (.int .i64 0) := (tok_cells hblx.out).2.2.2.1
         have f0 : w3.frozen? ⟨w.heap.size, 0, none⟩ = false := (tok_cells hblx.out).2.2.2.2.1
         have f1 : w3.frozen? ⟨w.heap.size, 1, none⟩ = false := (tok_cells hblx.out).2.2.2.2.2.1
         have f2 : w3.frozen? ⟨w.heap.size, 2, none⟩ = false := (tok_cells hblx.out).2.2.2.2.2.2.1
         have f3 : w3.frozen? ⟨w.heap.size, 3, none⟩ = false := (tok_cells hblx.out).2.2.2.2.2.2.2
         go_wp2_with fail
         obtain ⟨d0', d1', d2', d3', _⟩ := tok_cells (setTok_at hblx.out 5 ⟨acc.toArray⟩ 0 at0)
         have HBt : Hid (Below w.heap.size w (setTok w3 w.heap.size 5 ⟨acc.toArray⟩ 0 at0)) := setTok_below HB3.out (Nat.le_refl _) _ _ _ _
         generalize hW : setTok w3 w.heap.size 5 ⟨acc.toArray⟩ 0 at0 = W4 at d0' d1' d2' d3' HBt
         unfold setTok at hW
         rw [hW]
         exact bodyPost_ret (v := .tuple #[.agg #[.int .u8 5, .string ⟨acc.toArray⟩, .int .i64 0, .int .i64 at0], .int .i64 ((q : Int) + 1), .int .i64 0]) (by simp [results, results147, go_sem, d0', d1', d2', d3']) rfl ⟨by simp [Ans.v, Tok.v], HBt.out⟩
    · obtain ⟨g', rfl⟩ : ∃ g', gk = g' + 1 := ⟨gk - 1, by omega⟩
      have n34 : (ls[q].1 != 34) = true := bne_iff_ne.2 h34
      by_cases h92 : ls[q].1 = 92
      · rw [h92] at x0 n34
        have ce := fun W h => CE.out (q + 1) W (by omega) h
        rw [show (((q + 1 : Nat)) : Int) = (q : Int) + 1 by omega] at ce
        cases hE : escL (ls.drop (q + 1)) with
        | none =>
         have hA : ans = ⟨noTok, 0, 13⟩ := by
          have hS := HS.out
          rw [textRest, textL_none f' ls q hlt h92 hE] at hS
          rw [← HAN.out, textAns, ← hS]
          rfl
         subst hA
         rw [hE] at ce
         obtain ⟨e1, he1⟩ := gen (ls[q].2)
         rw [he1] at x1
         have CC : Hid (∀ W, Below w.heap.size w W → Calls prog 161 #[.slice (some ⟨b, 0, none⟩) ls.length c, .int .i64 ((q : Int) + 1)] W fun e w' => e = .returned (.tuple #[.int .i32 0, .int .i64 0, .bool false]) ∧ Below W.heap.size W w') := ce
         have HB1 : Hid (Below w.heap.size w (wr.alloc (.cells #[.int .i32 92, .bool e1] 184))) := HBw.out.alloc (by omega) _
         clear ce hE HS HAN HL HR CE hI hR he1
         go_wp2_with fail
         refine (CC.out _ HB1.out).mono ?_
         rintro e w2 ⟨rfl, hb2⟩
         have hblx : Hid (w2.heap[w.heap.size]? = some (tokO 0 ⟨#[]⟩ 0 0)) := (hb2.block _ (by simp; omega)).trans (tok_under hbl.out _)
         have HB2 : Hid (Below w.heap.size w w2) := HB1.out.trans (hb2.mono HB1.out.size)
         clear hb2 CC
         have a0 : w2.cell? ⟨w.heap.size, 0, none⟩ = some (.int .u8 0) := (tok_cells hblx.out).1
         have a1 : w2.cell? ⟨w.heap.size, 1, none⟩ = some (.string ⟨#[]⟩) := (tok_cells hblx.out).2.1
         have a2 : w2.cell? ⟨w.heap.size, 2, none⟩ = some (.int .i64 0) := (tok_cells hblx.out).2.2.1
         have a3 : w2.cell? ⟨w.heap.size, 3, none⟩ = some (.int .i64 0) := (tok_cells hblx.out).2.2.2.1
         have f0 : w2.frozen? ⟨w.heap.size, 0, none⟩ = false := (tok_cells hblx.out).2.2.2.2.1
         have f1 : w2.frozen? ⟨w.heap.size, 1, none⟩ = false := (tok_cells hblx.out).2.2.2.2.2.1
         have f2 : w2.frozen? ⟨w.heap.size, 2, none⟩ = false := (tok_cells hblx.out).2.2.2.2.2.2.1
         have f3 : w2.frozen? ⟨w.heap.size, 3, none⟩ = false := (tok_cells hblx.out).2.2.2.2.2.2.2
         go_wp2_with fail
         obtain ⟨d0', d1', d2', d3', _⟩ := tok_cells (setTok_at hblx.out 0 ⟨#[]⟩ 0 0)
         have HBt : Hid (Below w.heap.size w (setTok w2 w.heap.size 0 ⟨#[]⟩ 0 0)) := setTok_below HB2.out (Nat.le_refl _) _ _ _ _
         generalize hW : setTok w2 w.heap.size 0 ⟨#[]⟩ 0 0 = W4 at d0' d1' d2' d3' HBt
         unfold setTok at hW
         rw [hW]
         exact bodyPost_ret (v := .tuple #[.agg #[.int .u8 0, .string ⟨#[]⟩, .int .i64 0, .int .i64 0], .int .i64 0, .int .i64 13]) (by simp [results, results147, go_sem, d0', d1', d2', d3']) rfl ⟨rfl, HBt.out⟩
        | some p =>
         obtain ⟨r, n⟩ := p
         obtain ⟨hn1, hn2, hr1, hr2⟩ := escL_le hE
         rw [List.length_drop] at hn2
         simp only at hn1 hn2 hr1 hr2
         have hS := HS.out
         rw [textRest, textL_esc f' ls q hlt h92 (r, n) hE] at hS
         simp only [Option.map_map] at hS
         rw [hE] at ce
         obtain ⟨e1, he1⟩ := gen (ls[q].2)
         rw [he1] at x1 hS
         have HS2 : Hid (textRest f' (ls.drop (q + 1 + n)) (bd || e1) (acc ++ Lib.encodeRune r) (m + 1 + n) = textL (ls.length + 1) (ls.drop (at0 + 1))) := by
          show _ = _
          rw [← hS, textRest]
          congr 1
          funext y
          simp [Bool.or_assoc, List.append_assoc]
          omega
         have CC : Hid (∀ W, Below w.heap.size w W → Calls prog 161 #[.slice (some ⟨b, 0, none⟩) ls.length c, .int .i64 ((q : Int) + 1)] W fun e w' => e = .returned (.tuple #[.int .i32 r, .int .i64 ((q + 1 + n : Nat) : Int), .bool true]) ∧ Below W.heap.size W w') := ce
         have HB1 : Hid (Below w.heap.size w (wr.alloc (.cells #[.int .i32 92, .bool e1] 184))) := HBw.out.alloc (by omega) _
         have hI1 := hI.alloc (.cells #[.int .i32 92, .bool e1] 184)
         clear ce hE HS HAN HL HR CE hI hR he1 hS
         go_wp2_with fail
         refine (CC.out _ HB1.out).mono ?_
         rintro e w2 ⟨rfl, hb2⟩
         have hlb : w2.heap[wr.heap.size]? = some (.cells #[.int .i32 92, .bool e1] 184 (0, 0)) := (hb2.block _ (by simp)).trans (own_new wr _)
         have l0 : w2.cell? ⟨wr.heap.size, 0, none⟩ = some (.int .i32 92) := by simp [World.cell?, hlb]
         have l1 : w2.cell? ⟨wr.heap.size, 1, none⟩ = some (.bool e1) := by simp [World.cell?, hlb]
         have lf : w2.frozen? ⟨wr.heap.size, 0, none⟩ = false := by simp [World.frozen?, hlb]
         have hI2 : Lib.IsBuilderF 198 5 (w.heap.size + 1) (w.heap.size + 1) (Lib.byteCells acc) (w2.setCell ⟨wr.heap.size, 0, none⟩ (.int .i32 r)) := builder_letter (builder_below hI1 hb2) hlb 0 _
         have HB2 : Hid (Below (w.heap.size + 1) (w.alloc (tokO 0 ⟨#[]⟩ 0 0)) (w2.setCell ⟨wr.heap.size, 0, none⟩ (.int .i32 r))) := ((hbw.alloc hsz _).trans (hb2.mono (by simp; omega))).setCell (by simpa using hsz) _
         have hs2 : w.heap.size + 1 ≤ (w2.setCell ⟨wr.heap.size, 0, none⟩ (.int .i32 r)).heap.size := by have := HB2.out.size; simpa using this
         have cw := Tryz.Builder_WriteRune_k (w.heap.size + 1) (w.heap.size + 1) _ r hr1 hr2 _ hI2 (by rw [Lib.byteCells_length]; omega) hs2
         have CB : Hid (Calls prog 162 #[.pointer (some ⟨w.heap.size + 1, 0, none⟩), .int .i32 r] (w2.setCell ⟨wr.heap.size, 0, none⟩ (.int .i32 r)) fun e w' => e = .returned (.tuple #[.int .i64 (Lib.runeCells r).length, .nilIface]) ∧ Lib.IsBuilderF 198 5 (w.heap.size + 1) (w.heap.size + 1) (Lib.byteCells (acc ++ Lib.encodeRune r)) w' ∧ Below (w.heap.size + 1) (w2.setCell ⟨wr.heap.size, 0, none⟩ (.int .i32 r)) w') :=
          cw.mono fun _ _ h => ⟨h.1, by rw [Lib.byteCells_append, Lib.byteCells_encodeRune]; exact Or.inr h.2.1, h.2.2.1⟩
         have her := encR_le r
         clear cw hb2 hI1 hI2 CC hlb hs2
         cases bd <;> cases e1
         all_goals
          go_wp2_with fail
          refine CB.out.mono ?_
          rintro e w3 ⟨rfl, h1, b1⟩
          go_wp2_with fail
          go_roundg (g' - n)
          case measure => omega
          case rel => exact ⟨m + 1 + n, _, acc ++ Lib.encodeRune r, f', by rw [show at0 + 1 + (m + 1 + n) = q + 1 + n by omega]; go_num, rfl, h1, HB2.out.trans b1, by omega, by rw [show at0 + 1 + (m + 1 + n) = q + 1 + n by omega]; exact HS2, by rw [List.length_append]; omega, by omega, by omega⟩
      · have n92 : (ls[q].1 == 92) = false := bfn h92
        have hS := HS.out
        rw [textRest, textL_plain f' ls q hlt h34 h92] at hS
        simp only [Option.map_map] at hS
        obtain ⟨⟨d0, e1⟩, hd⟩ := gen (ls[q])
        rw [hd] at x0 x1 hS hR n34 n92
        simp only at x0 x1 hS hR n34 n92
        have HS2 : Hid (textRest f' (ls.drop (q + 1)) (bd || e1) (acc ++ Lib.encodeRune d0) (m + 1) = textL (ls.length + 1) (ls.drop (at0 + 1))) := by
         show _ = _
         rw [← hS, textRest]
         congr 1
         funext y
         simp [Bool.or_assoc, List.append_assoc]
         omega
        have hI1 := hI.alloc (.cells #[.int .i32 d0, .bool e1] 184)
        have HB2 : Hid (Below (w.heap.size + 1) (w.alloc (tokO 0 ⟨#[]⟩ 0 0)) (wr.alloc (.cells #[.int .i32 d0, .bool e1] 184))) := hbw.alloc hsz _
        have cw := Tryz.Builder_WriteRune_k (w.heap.size + 1) (w.heap.size + 1) _ d0 hR.1 hR.2 _ hI1 (by rw [Lib.byteCells_length]; omega) (by simp; omega)
        have CB : Hid (Calls prog 162 #[.pointer (some ⟨w.heap.size + 1, 0, none⟩), .int .i32 d0] (wr.alloc (.cells #[.int .i32 d0, .bool e1] 184)) fun e w' => e = .returned (.tuple #[.int .i64 (Lib.runeCells d0).length, .nilIface]) ∧ Lib.IsBuilderF 198 5 (w.heap.size + 1) (w.heap.size + 1) (Lib.byteCells (acc ++ Lib.encodeRune d0)) w' ∧ Below (w.heap.size + 1) (wr.alloc (.cells #[.int .i32 d0, .bool e1] 184)) w') :=
         cw.mono fun _ _ h => ⟨h.1, by rw [Lib.byteCells_append, Lib.byteCells_encodeRune]; exact Or.inr h.2.1, h.2.2.1⟩
        have her := encR_le d0
        clear cw hI1 hI HS HAN HL HR CE hR hS hd h34 h92 hbw
        cases bd <;> cases e1
        all_goals
         go_wp2_with fail
         refine CB.out.mono ?_
         rintro e w3 ⟨rfl, h1, b1⟩
         go_wp2_with fail
         go_roundg g'
         case measure => omega
         case rel => exact ⟨m + 1, _, acc ++ Lib.encodeRune d0, f', by rw [show at0 + 1 + (m + 1) = q + 1 by omega]; go_num, rfl, h1, HB2.out.trans b1, by omega, by rw [show at0 + 1 + (m + 1) = q + 1 by omega]; exact HS2, by rw [List.length_append]; omega, by omega, by omega⟩
  · have ny1 : (ls.length : Int) ≤ (q : Int) := by omega
    have ny2 : ¬ (q : Int) < (ls.length : Int) := by omega
    have hA : ans = ⟨noTok, 0, 13⟩ := by
     have hS := HS.out
     rw [List.drop_of_length_le (by omega)] at hS
     rw [← HAN.out, textAns, ← hS]
     cases f <;> simp [textRest, textL]
    subst hA
    have hblx := hbl
    clear HS HAN HL HR CE hI
    have a0 : wr.cell? ⟨w.heap.size, 0, none⟩ = some (.int .u8 0) := (tok_cells hblx.out).1
    have a1 : wr.cell? ⟨w.heap.size, 1, none⟩ = some (.string ⟨#[]⟩) := (tok_cells hblx.out).2.1
    have a2 : wr.cell? ⟨w.heap.size, 2, none⟩ = some (.int .i64 0) := (tok_cells hblx.out).2.2.1
    have a3 : wr.cell? ⟨w.heap.size, 3, none⟩ = some (.int .i64 0) := (tok_cells hblx.out).2.2.2.1
    have f0 : wr.frozen? ⟨w.heap.size, 0, none⟩ = false := (tok_cells hblx.out).2.2.2.2.1
    have f1 : wr.frozen? ⟨w.heap.size, 1, none⟩ = false := (tok_cells hblx.out).2.2.2.2.2.1
    have f2 : wr.frozen? ⟨w.heap.size, 2, none⟩ = false := (tok_cells hblx.out).2.2.2.2.2.2.1
    have f3 : wr.frozen? ⟨w.heap.size, 3, none⟩ = false := (tok_cells hblx.out).2.2.2.2.2.2.2
    go_wp2_with fail
    obtain ⟨d0', d1', d2', d3', _⟩ := tok_cells (setTok_at hblx.out 0 ⟨#[]⟩ 0 0)
    have HBt : Hid (Below w.heap.size w (setTok wr w.heap.size 0 ⟨#[]⟩ 0 0)) := setTok_below HBw.out (Nat.le_refl _) _ _ _ _
    generalize hW : setTok wr w.heap.size 0 ⟨#[]⟩ 0 0 = W4 at d0' d1' d2' d3' HBt
    unfold setTok at hW
    rw [hW]
    exact bodyPost_ret (v := .tuple #[.agg #[.int .u8 0, .string ⟨#[]⟩, .int .i64 0, .int .i64 0], .int .i64 0, .int .i64 13]) (by simp [results, results147, go_sem, d0', d1', d2', d3']) rfl ⟨rfl, HBt.out⟩
end Go.Proofs.YtfifphfihdhlaaaGreatDoor
