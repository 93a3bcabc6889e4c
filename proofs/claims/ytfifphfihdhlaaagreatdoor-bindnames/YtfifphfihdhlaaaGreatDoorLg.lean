/- What readWord answers: the token of the word at a place, and the place behind it. -/
import Derived.Test.YtfifphfihdhlaaaGreatDoorLf
import Derived.BigCall
import Derived.Deep.DeepCutAuto
set_option maxRecDepth 100000
set_option maxHeartbeats 32000000
namespace Go.Proofs.YtfifphfihdhlaaaGreatDoor
open Tryz
open Go.RowKit Go.Lib Go.Sort
set_option linter.unusedVariables false
def wlen : List Let → Nat
 | [] => 0
 | x :: l => if isEnd x.1 then 0 else wlen l + 1
theorem wlen_le : ∀ l, wlen l ≤ l.length
 | [] => Nat.le_refl _
 | x :: l => by unfold wlen; have := wlen_le l; split <;> simp <;> omega
def enc (l : List Let) : List UInt8 := l.flatMap fun x => Lib.encodeRune x.1
theorem encR_le (r : Int) : (Lib.encodeRune r).length ≤ 4 := by
 have := Lib.runeCells_le r
 rw [Lib.runeCells_length] at this
 omega
theorem enc_le : ∀ l, (enc l).length ≤ 4 * l.length
 | [] => by simp [enc]
 | x :: l => by
  have h1 := enc_le l
  have h2 := encR_le x.1
  simp only [enc, List.flatMap_cons, List.length_append, List.length_cons] at h1 ⊢
  omega
def anyBad (l : List Let) : Bool := l.any fun x => x.2
theorem anyBad_take {l : List Let} {j k : Nat} (h : anyBad (l.take j) = true) (hjk : j ≤ k) : anyBad (l.take k) = true := by
 unfold anyBad at h ⊢
 rw [List.any_eq_true] at h ⊢
 obtain ⟨x, hx, hb⟩ := h
 refine ⟨x, ?_, hb⟩
 rw [show l.take j = (l.take k).take j by rw [List.take_take, Nat.min_eq_left hjk]] at hx
 exact List.mem_of_mem_take hx
theorem tok_under {W : World} {B : Nat} {k : Int} {t : ByteArray} {n a : Int} (h : W.heap[B]? = some (tokO k t n a)) (o : Obj) : (W.alloc o).heap[B]? = some (tokO k t n a) :=
 (Below.heap_alloc _ _ _ (gsi h).1).trans h
structure Ans where
 tok : Tok
 fin : Int
 err : Int
def Ans.v (x : Ans) : Value := .tuple #[x.tok.v, .int .i64 x.fin, .int .i64 x.err]
def wordAns (ls : List Let) (at0 : Nat) : Ans :=
 let seg := (ls.drop at0).take (wlen (ls.drop at0))
 if anyBad seg then ⟨noTok, 0, 9⟩ else if wErr (enc seg) = 0 then ⟨{ wTok (enc seg) with a := at0 }, ((at0 + wlen (ls.drop at0) : Nat) : Int), 0⟩ else ⟨noTok, 0, wErr (enc seg)⟩
theorem readWord_any (b c at0 : Nat) (ls : List Let) (w : World) (hl : LetsAt w b ls) (hb : b < w.heap.size) (hn : ls.length ≤ 2048) (hr : ∀ x ∈ ls, -2147483648 ≤ x.1 ∧ x.1 ≤ 2147483647) (hc1 : ls.length ≤ c) (hc2 : c ≤ 9223372036854775807) (ha : 1 ≤ wlen (ls.drop at0)) (hG : Glob w) :
 Calls prog 148 #[.slice (some ⟨b, 0, none⟩) ls.length c, .int .i64 at0] w fun e w' => e = .returned (wordAns ls at0).v ∧ Below w.heap.size w w' := by
 have CE : Hid (∀ r W, Calls prog 165 #[.int .i32 r] W fun e w' => e = .returned (.bool (isEnd r)) ∧ w' = W) := endsWord_any
 have CW : Hid (∀ l W, l.length ≤ 100000 → Below w.heap.size w W → Calls prog 166 #[.string ⟨l.toArray⟩] W fun e w' => e = .returned (.tuple #[(wTok l).v, .int .i64 (wErr l)]) ∧ Below W.heap.size W w') := fun l W h1 h2 => wordToken_any l W h1 (hG.below h2)
 have HL : Hid (∀ W, Below w.heap.size w W → LetsAt W b ls) := fun W h j hj => by
  obtain ⟨h1, h2⟩ := hl j hj
  rw [← h.cell (p := ⟨b, _, none⟩) hb] at h1 h2
  exact ⟨h1, h2⟩
 have HR : Hid (∀ x ∈ ls, -2147483648 ≤ x.1 ∧ x.1 ≤ 2147483647) := hr
 clear hl hr hG
 have hat : at0 < ls.length := by
  rcases Nat.lt_or_ge at0 ls.length with h | h
  · exact h
  · rw [List.drop_of_length_le h] at ha; simp [wlen] at ha
 have HA : Hid (1 ≤ wlen (ls.drop at0)) := ha
 clear ha
 obtain ⟨ans, hans⟩ := gen (wordAns ls at0)
 have HAN : Hid (wordAns ls at0 = ans) := hans
 rw [hans]
 clear hans
 go_enter func148, ntmps148
 go_wp2_with fail
 go_loopg [7] ls.length (fun gf s7 wx => ∃ k : Nat, s7 = .int .i64 ((at0 + k : Nat) : Int) ∧ wx = w.alloc (tokO 0 ⟨#[]⟩ 0 0) ∧ at0 + k ≤ ls.length ∧ k + wlen (ls.drop (at0 + k)) = wlen (ls.drop at0) ∧ ls.length ≤ at0 + k + gf)
 case atStart => exact ⟨0, rfl, rfl, by omega, by simp, by omega⟩
 case round =>
  obtain ⟨k, rfl, rfl, hk, hw, hf⟩ := hrel
  obtain ⟨q, hq⟩ := gen (at0 + k)
  rw [hq] at hk hw hf ⊢
  have y0 : (0 : Int) ≤ (q : Int) := by omega
  by_cases hlt : q < ls.length
  · have y1 : (q : Int) < (ls.length : Int) := by omega
    obtain ⟨x0, x1⟩ := HL.out _ ((Below.refl _ w).alloc (Nat.le_refl _) (tokO 0 ⟨#[]⟩ 0 0)) q hlt
    rw [drop_at ls q hlt] at hw
    obtain ⟨⟨c0, c1⟩, hc⟩ := gen (ls[q])
    rw [hc] at x0 x1 hw
    have ce := CE.out c0 (w.alloc (tokO 0 ⟨#[]⟩ 0 0))
    cases hE : isEnd c0 with
    | true =>
     rw [hE] at ce
     have HC : Hid (Calls prog 165 #[.int .i32 c0] (w.alloc (tokO 0 ⟨#[]⟩ 0 0)) fun e w' => e = .returned (.bool true) ∧ w' = w.alloc (tokO 0 ⟨#[]⟩ 0 0)) := ce
     have hkw : k = wlen (ls.drop at0) := by simp [wlen, hE] at hw; exact hw
     have HK : Hid (k = wlen (ls.drop at0)) := hkw
     have hk1 : 1 ≤ k := by rw [hkw]; exact HA.out
     clear ce hw hE hc hkw
     have z1 : (at0 : Int) ≤ (q : Int) := by omega
     have z2 : (q : Int) ≤ (c : Int) := by omega
     go_wp2_with fail
     refine HC.out.mono ?_
     rintro e w' ⟨rfl, rfl⟩
     clear HC x0 x1 y1 y0
     go_wp2_with fail
     rw [show q - at0 = k by omega]
     have W0B : Hid (Below w.heap.size w (w.alloc (tokO 0 ⟨#[]⟩ 0 0))) := (Below.refl _ w).alloc (Nat.le_refl _) _
     go_loopg [34] (k + 1) (fun gf s34 wx => ∃ j : Nat, s34 = .int .i64 j ∧ j ≤ k ∧ Lib.IsBuilderF 198 5 (w.heap.size + 1) (w.heap.size + 1) (Lib.byteCells (enc ((ls.drop at0).take j))) wx ∧ Below (w.heap.size + 1) (w.alloc (tokO 0 ⟨#[]⟩ 0 0)) wx ∧ anyBad ((ls.drop at0).take j) = false ∧ k < j + gf)
     case atStart =>
      refine ⟨0, rfl, by omega, ?_, ?_, by simp [anyBad], by omega⟩
      · have := Lib.IsBuilderF.of (Lib.fresh_isBuilder 198 5 (w.alloc (tokO 0 ⟨#[]⟩ 0 0)))
        simpa [enc, Lib.byteCells] using this
      · have := (Below.refl (w.alloc (tokO 0 ⟨#[]⟩ 0 0)).heap.size (w.alloc (tokO 0 ⟨#[]⟩ 0 0))).alloc (Nat.le_refl _) (.cells #[.pointer none, .slice none 0 0] 198)
        simpa using this
     case round =>
      obtain ⟨j, rfl, hj, hI, hbw, hbad, hfu⟩ := hrel
      have HBw : Hid (Below w.heap.size w wr) := W0B.out.trans (hbw.mono (by omega))
      have hsz : w.heap.size + 1 ≤ wr.heap.size := by have := hbw.size; simpa using this
      by_cases hlt2 : j < k
      · obtain ⟨g', rfl⟩ : ∃ g', gk = g' + 1 := ⟨gk - 1, by omega⟩
        have v0 : (0 : Int) ≤ (j : Int) := by omega
        have v1 : (j : Int) < (k : Int) := by omega
        obtain ⟨x0, x1⟩ := HL.out _ HBw.out (at0 + j) (by omega)
        have hR := HR.out _ (List.getElem_mem (show at0 + j < ls.length by omega))
        have hsg : (ls.drop at0).take (j + 1) = (ls.drop at0).take j ++ [ls[at0 + j]'(by omega)] := by
         rw [List.take_add_one, List.getElem?_drop, List.getElem?_eq_getElem (by omega)]; rfl
        obtain ⟨⟨d0, d1⟩, hd⟩ := gen (ls[at0 + j]'(by omega))
        rw [hd] at x0 x1 hR hsg
        rw [show (at0 + j) * 2 = at0 * 2 + j * 2 by omega] at x0 x1
        have hbl : Hid (wr.heap[w.heap.size]? = some (tokO 0 ⟨#[]⟩ 0 0)) := (hbw.block _ (by omega)).trans (own_new w _)
        cases d1 with
        | true =>
         have hA : ans = ⟨noTok, 0, 9⟩ := by
          rw [← HAN.out]
          have : anyBad ((ls.drop at0).take (wlen (ls.drop at0))) = true := anyBad_take (j := j + 1) (by rw [hsg]; simp [anyBad]) (by rw [← HK.out]; omega)
          simp [wordAns, this]
         subst hA
         have hbl2 : Hid ((wr.alloc (.cells #[.int .i32 d0, .bool true] 184)).heap[w.heap.size]? = some (tokO 0 ⟨#[]⟩ 0 0)) := (Below.heap_alloc _ _ _ (by omega)).trans hbl.out
         obtain ⟨e0, e1, e2, e3, f0, f1, f2, f3⟩ := tok_cells hbl2.out
         have HB2 : Hid (Below w.heap.size w (wr.alloc (.cells #[.int .i32 d0, .bool true] 184))) := HBw.out.alloc (by omega) _
         clear hI hbad hsg hR hd CE CW HK HA HL HR HAN
         go_wp2_with fail
         obtain ⟨d0', d1', d2', d3', _⟩ := tok_cells (setTok_at hbl2.out 0 ⟨#[]⟩ 0 0)
         have HBt : Hid (Below w.heap.size w (setTok (wr.alloc (.cells #[.int .i32 d0, .bool true] 184)) w.heap.size 0 ⟨#[]⟩ 0 0)) := setTok_below HB2.out (Nat.le_refl _) _ _ _ _
         generalize hW : setTok (wr.alloc (.cells #[.int .i32 d0, .bool true] 184)) w.heap.size 0 ⟨#[]⟩ 0 0 = W4 at d0' d1' d2' d3' HBt
         unfold setTok at hW
         rw [hW]
         exact bodyPost_ret (v := .tuple #[.agg #[.int .u8 0, .string ⟨#[]⟩, .int .i64 0, .int .i64 0], .int .i64 0, .int .i64 9]) (by simp [results, results148, go_sem, d0', d1', d2', d3']) rfl ⟨rfl, HBt.out⟩
        | false =>
         have hI2 := hI.alloc (.cells #[.int .i32 d0, .bool false] 184)
         have hlen := enc_le ((ls.drop at0).take j)
         rw [List.length_take, List.length_drop] at hlen
         have cw := Tryz.Builder_WriteRune_k (w.heap.size + 1) (w.heap.size + 1) _ d0 hR.1 hR.2 _ hI2 (by rw [Lib.byteCells_length]; omega) (by simp; omega)
         have CB : Hid (Calls prog 162 #[.pointer (some ⟨w.heap.size + 1, 0, none⟩), .int .i32 d0] (wr.alloc (.cells #[.int .i32 d0, .bool false] 184)) fun e w' => e = .returned (.tuple #[.int .i64 (Lib.runeCells d0).length, .nilIface]) ∧ (Lib.BuilderAtF 198 5 (w.heap.size + 1) (w.heap.size + 1) (.pointer (some ⟨w.heap.size + 1, 0, none⟩)) (Lib.byteCells (enc ((ls.drop at0).take j)) ++ Lib.runeCells d0) w' ∧ Below (w.heap.size + 1) (wr.alloc (.cells #[.int .i32 d0, .bool false] 184)) w' ∧ Lib.OthersKept 5 (some (w.heap.size + 1)) (wr.alloc (.cells #[.int .i32 d0, .bool false] 184)) w')) := cw
         have hnb : anyBad ((ls.drop at0).take (j + 1)) = false := by rw [hsg]; unfold anyBad at hbad ⊢; rw [List.any_append, hbad]; rfl
         have hen : Lib.byteCells (enc ((ls.drop at0).take j)) ++ Lib.runeCells d0 = Lib.byteCells (enc ((ls.drop at0).take (j + 1))) := by
          rw [hsg]
          simp only [enc, List.flatMap_append, List.flatMap_cons, List.flatMap_nil, List.append_nil]
          rw [Lib.byteCells_append, Lib.byteCells_encodeRune]
         have HBB : Hid (Below (w.heap.size + 1) (w.alloc (tokO 0 ⟨#[]⟩ 0 0)) (wr.alloc (.cells #[.int .i32 d0, .bool false] 184))) := hbw.alloc hsz _
         clear cw hI hI2 hbad hsg hR hd hlen hbw
         go_wp2_with fail
         refine CB.out.mono ?_
         rintro e w2 ⟨rfl, h1, b1, k1⟩
         clear CB x0 x1
         go_wp2_with fail
         go_roundg g'
         case measure => omega
         case rel => exact ⟨j + 1, by go_num, by omega, by rw [← hen]; exact Or.inr h1, HBB.out.trans b1, hnb, by omega⟩
      · obtain rfl : j = k := by omega
        have v1 : ¬ (j : Int) < (j : Int) := by omega
        have cs := Tryz.Builder_String_any_k (w.heap.size + 1) (w.heap.size + 1) (enc ((ls.drop at0).take j)) wr hI (by omega)
        have hlen := enc_le ((ls.drop at0).take j)
        rw [List.length_take, List.length_drop] at hlen
        have hA : ans = if wErr (enc ((ls.drop at0).take j)) = 0 then ⟨{ wTok (enc ((ls.drop at0).take j)) with a := at0 }, ((at0 + j : Nat) : Int), 0⟩ else ⟨noTok, 0, wErr (enc ((ls.drop at0).take j))⟩ := by
         rw [← HAN.out]
         simp only [wordAns, ← HK.out, hbad]
         simp
        obtain ⟨S, hS⟩ := gen (enc ((ls.drop at0).take j))
        rw [hS] at cs hlen hA
        have CS : Hid (Calls prog 164 #[.pointer (some ⟨w.heap.size + 1, 0, none⟩)] wr fun e w' => e = .returned (.string ⟨S.toArray⟩) ∧ Below (w.heap.size + 1) wr w') := cs.mono fun _ _ h => ⟨h.1, h.2.2.1⟩
        have CT : Hid (∀ W, Below w.heap.size w W → Calls prog 166 #[.string ⟨S.toArray⟩] W fun e w' => e = .returned (.tuple #[(wTok S).v, .int .i64 (wErr S)]) ∧ Below W.heap.size W w') := fun W h => CW.out S W (by omega) h
        have HBB : Hid (Below (w.heap.size + 1) (w.alloc (tokO 0 ⟨#[]⟩ 0 0)) wr) := hbw
        clear cs hI hbad hS hlen hbw CW CE HK HA HL HR HAN
        go_wp2_with fail
        refine CS.out.mono ?_
        rintro e w2 ⟨rfl, hb2⟩
        have HB2 : Hid (Below (w.heap.size + 1) (w.alloc (tokO 0 ⟨#[]⟩ 0 0)) w2) := HBB.out.trans (hb2)
        clear hb2 CS
        go_wp2_with fail
        obtain ⟨⟨tk, tt, tn, ta⟩, hT⟩ := gen (wTok S)
        obtain ⟨er, hE2⟩ := gen (wErr S)
        rw [hT, hE2] at CT hA
        refine (CT.out _ (W0B.out.trans (HB2.out.mono (by omega)))).mono ?_
        rintro e w3 ⟨rfl, hb3⟩
        have HB3 : Hid (Below (w.heap.size + 1) (w.alloc (tokO 0 ⟨#[]⟩ 0 0)) w3) := HB2.out.trans (hb3.mono (by have := HB2.out.size; simpa using this))
        have hbl : Hid (w3.heap[w.heap.size]? = some (tokO 0 ⟨#[]⟩ 0 0)) := (HB3.out.block _ (by omega)).trans (own_new w _)
        have hs3 : w.heap.size + 1 ≤ w3.heap.size := by have := HB3.out.size; simpa using this
        have HB3' : Hid (Below w.heap.size w w3) := W0B.out.trans (HB3.out.mono (by omega))
        clear hb3 HB2 HBB CT hT hE2
        simp only [Tok.v]
        by_cases h0 : er = 0
        · subst h0
          rw [if_pos rfl] at hA
          subst hA
          have a0 : ∀ o, (w3.alloc o).cell? ⟨w.heap.size, 0, none⟩ = some (.int .u8 0) := fun o => (tok_cells (tok_under hbl.out o)).1
          have a1 : ∀ o, (w3.alloc o).cell? ⟨w.heap.size, 1, none⟩ = some (.string ⟨#[]⟩) := fun o => (tok_cells (tok_under hbl.out o)).2.1
          have a2 : ∀ o, (w3.alloc o).cell? ⟨w.heap.size, 2, none⟩ = some (.int .i64 0) := fun o => (tok_cells (tok_under hbl.out o)).2.2.1
          have a3 : ∀ o, (w3.alloc o).cell? ⟨w.heap.size, 3, none⟩ = some (.int .i64 0) := fun o => (tok_cells (tok_under hbl.out o)).2.2.2.1
          have f0 : ∀ o, (w3.alloc o).frozen? ⟨w.heap.size, 0, none⟩ = false := fun o => (tok_cells (tok_under hbl.out o)).2.2.2.2.1
          have f1 : ∀ o, (w3.alloc o).frozen? ⟨w.heap.size, 1, none⟩ = false := fun o => (tok_cells (tok_under hbl.out o)).2.2.2.2.2.1
          have f2 : ∀ o, (w3.alloc o).frozen? ⟨w.heap.size, 2, none⟩ = false := fun o => (tok_cells (tok_under hbl.out o)).2.2.2.2.2.2.1
          have f3 : ∀ o, (w3.alloc o).frozen? ⟨w.heap.size, 3, none⟩ = false := fun o => (tok_cells (tok_under hbl.out o)).2.2.2.2.2.2.2
          go_wp2_with fail
          obtain ⟨d0', d1', d2', d3', _⟩ := tok_cells (setTok_at (tok_under hbl.out _) tk ⟨tt.toArray⟩ tn at0)
          have HBt : Hid (Below w.heap.size w (setTok (w3.alloc (tokO tk ⟨tt.toArray⟩ tn at0)) w.heap.size tk ⟨tt.toArray⟩ tn at0)) := setTok_below (HB3'.out.alloc (by omega) _) (Nat.le_refl _) _ _ _ _
          generalize hW : setTok (w3.alloc (tokO tk ⟨tt.toArray⟩ tn at0)) w.heap.size tk ⟨tt.toArray⟩ tn at0 = W4 at d0' d1' d2' d3' HBt
          unfold setTok tokO at hW
          rw [hW]
          exact bodyPost_ret (v := .tuple #[.agg #[.int .u8 tk, .string ⟨tt.toArray⟩, .int .i64 tn, .int .i64 at0], .int .i64 q, .int .i64 0]) (by simp [results, results148, go_sem, d0', d1', d2', d3']) rfl ⟨by simp [Ans.v, Tok.v], HBt.out⟩
        · have hne : (er != 0) = true := bne_iff_ne.2 h0
          rw [if_neg h0] at hA
          subst hA
          have a0 : ∀ o, (w3.alloc o).cell? ⟨w.heap.size, 0, none⟩ = some (.int .u8 0) := fun o => (tok_cells (tok_under hbl.out o)).1
          have a1 : ∀ o, (w3.alloc o).cell? ⟨w.heap.size, 1, none⟩ = some (.string ⟨#[]⟩) := fun o => (tok_cells (tok_under hbl.out o)).2.1
          have a2 : ∀ o, (w3.alloc o).cell? ⟨w.heap.size, 2, none⟩ = some (.int .i64 0) := fun o => (tok_cells (tok_under hbl.out o)).2.2.1
          have a3 : ∀ o, (w3.alloc o).cell? ⟨w.heap.size, 3, none⟩ = some (.int .i64 0) := fun o => (tok_cells (tok_under hbl.out o)).2.2.2.1
          have f0 : ∀ o, (w3.alloc o).frozen? ⟨w.heap.size, 0, none⟩ = false := fun o => (tok_cells (tok_under hbl.out o)).2.2.2.2.1
          have f1 : ∀ o, (w3.alloc o).frozen? ⟨w.heap.size, 1, none⟩ = false := fun o => (tok_cells (tok_under hbl.out o)).2.2.2.2.2.1
          have f2 : ∀ o, (w3.alloc o).frozen? ⟨w.heap.size, 2, none⟩ = false := fun o => (tok_cells (tok_under hbl.out o)).2.2.2.2.2.2.1
          have f3 : ∀ o, (w3.alloc o).frozen? ⟨w.heap.size, 3, none⟩ = false := fun o => (tok_cells (tok_under hbl.out o)).2.2.2.2.2.2.2
          go_wp2_with fail
          obtain ⟨d0', d1', d2', d3', _⟩ := tok_cells (setTok_at (tok_under hbl.out _) 0 ⟨#[]⟩ 0 0)
          have HBt : Hid (Below w.heap.size w (setTok (w3.alloc (tokO tk ⟨tt.toArray⟩ tn ta)) w.heap.size 0 ⟨#[]⟩ 0 0)) := setTok_below (HB3'.out.alloc (by omega) _) (Nat.le_refl _) _ _ _ _
          generalize hW : setTok (w3.alloc (tokO tk ⟨tt.toArray⟩ tn ta)) w.heap.size 0 ⟨#[]⟩ 0 0 = W4 at d0' d1' d2' d3' HBt
          unfold setTok tokO at hW
          rw [hW]
          exact bodyPost_ret (v := .tuple #[.agg #[.int .u8 0, .string ⟨#[]⟩, .int .i64 0, .int .i64 0], .int .i64 0, .int .i64 er]) (by simp [results, results148, go_sem, d0', d1', d2', d3']) rfl ⟨rfl, HBt.out⟩
    | false =>
     rw [hE] at ce
     have HC : Hid (Calls prog 165 #[.int .i32 c0] (w.alloc (tokO 0 ⟨#[]⟩ 0 0)) fun e w' => e = .returned (.bool false) ∧ w' = w.alloc (tokO 0 ⟨#[]⟩ 0 0)) := ce
     have hkw : k + 1 + wlen (ls.drop (q + 1)) = wlen (ls.drop at0) := by simp [wlen, hE] at hw; omega
     have HK : Hid (k + 1 + wlen (ls.drop (q + 1)) = wlen (ls.drop at0)) := hkw
     obtain ⟨g', rfl⟩ : ∃ g', gk = g' + 1 := ⟨gk - 1, by omega⟩
     clear ce hw hE hc hkw
     go_wp2_with fail
     refine HC.out.mono ?_
     rintro e w' ⟨rfl, rfl⟩
     go_wp2_with fail
     go_roundg g'
     case measure => omega
     case rel => exact ⟨k + 1, by rw [show at0 + (k + 1) = q + 1 by omega]; go_num, rfl, by omega, by rw [show at0 + (k + 1) = q + 1 by omega]; exact HK.out, by omega⟩
  · have y1 : ¬ (q : Int) < (ls.length : Int) := by omega
    have hkw : k = wlen (ls.drop at0) := by
     rw [List.drop_of_length_le (show ls.length ≤ q by omega)] at hw
     simpa [wlen] using hw
    have HK : Hid (k = wlen (ls.drop at0)) := hkw
    have hk1 : 1 ≤ k := by rw [hkw]; exact HA.out
    clear hw hkw
    have z1 : (at0 : Int) ≤ (q : Int) := by omega
    have z2 : (q : Int) ≤ (c : Int) := by omega
    clear y0
    go_wp2_with fail
    rw [show q - at0 = k by omega]
    have W0B : Hid (Below w.heap.size w (w.alloc (tokO 0 ⟨#[]⟩ 0 0))) := (Below.refl _ w).alloc (Nat.le_refl _) _
    go_loopg [34] (k + 1) (fun gf s34 wx => ∃ j : Nat, s34 = .int .i64 j ∧ j ≤ k ∧ Lib.IsBuilderF 198 5 (w.heap.size + 1) (w.heap.size + 1) (Lib.byteCells (enc ((ls.drop at0).take j))) wx ∧ Below (w.heap.size + 1) (w.alloc (tokO 0 ⟨#[]⟩ 0 0)) wx ∧ anyBad ((ls.drop at0).take j) = false ∧ k < j + gf)
    case atStart =>
     refine ⟨0, rfl, by omega, ?_, ?_, by simp [anyBad], by omega⟩
     · have := Lib.IsBuilderF.of (Lib.fresh_isBuilder 198 5 (w.alloc (tokO 0 ⟨#[]⟩ 0 0)))
       simpa [enc, Lib.byteCells] using this
     · have := (Below.refl (w.alloc (tokO 0 ⟨#[]⟩ 0 0)).heap.size (w.alloc (tokO 0 ⟨#[]⟩ 0 0))).alloc (Nat.le_refl _) (.cells #[.pointer none, .slice none 0 0] 198)
       simpa using this
    case round =>
     obtain ⟨j, rfl, hj, hI, hbw, hbad, hfu⟩ := hrel
     have HBw : Hid (Below w.heap.size w wr) := W0B.out.trans (hbw.mono (by omega))
     have hsz : w.heap.size + 1 ≤ wr.heap.size := by have := hbw.size; simpa using this
     by_cases hlt2 : j < k
     · obtain ⟨g', rfl⟩ : ∃ g', gk = g' + 1 := ⟨gk - 1, by omega⟩
       have v0 : (0 : Int) ≤ (j : Int) := by omega
       have v1 : (j : Int) < (k : Int) := by omega
       obtain ⟨x0, x1⟩ := HL.out _ HBw.out (at0 + j) (by omega)
       have hR := HR.out _ (List.getElem_mem (show at0 + j < ls.length by omega))
       have hsg : (ls.drop at0).take (j + 1) = (ls.drop at0).take j ++ [ls[at0 + j]'(by omega)] := by
        rw [List.take_add_one, List.getElem?_drop, List.getElem?_eq_getElem (by omega)]; rfl
       obtain ⟨⟨d0, d1⟩, hd⟩ := gen (ls[at0 + j]'(by omega))
       rw [hd] at x0 x1 hR hsg
       rw [show (at0 + j) * 2 = at0 * 2 + j * 2 by omega] at x0 x1
       have hbl : Hid (wr.heap[w.heap.size]? = some (tokO 0 ⟨#[]⟩ 0 0)) := (hbw.block _ (by omega)).trans (own_new w _)
       cases d1 with
       | true =>
        have hA : ans = ⟨noTok, 0, 9⟩ := by
         rw [← HAN.out]
         have : anyBad ((ls.drop at0).take (wlen (ls.drop at0))) = true := anyBad_take (j := j + 1) (by rw [hsg]; simp [anyBad]) (by rw [← HK.out]; omega)
         simp [wordAns, this]
        subst hA
        have hbl2 : Hid ((wr.alloc (.cells #[.int .i32 d0, .bool true] 184)).heap[w.heap.size]? = some (tokO 0 ⟨#[]⟩ 0 0)) := (Below.heap_alloc _ _ _ (by omega)).trans hbl.out
        obtain ⟨e0, e1, e2, e3, f0, f1, f2, f3⟩ := tok_cells hbl2.out
        have HB2 : Hid (Below w.heap.size w (wr.alloc (.cells #[.int .i32 d0, .bool true] 184))) := HBw.out.alloc (by omega) _
        clear hI hbad hsg hR hd CE CW HK HA HL HR HAN
        go_wp2_with fail
        obtain ⟨d0', d1', d2', d3', _⟩ := tok_cells (setTok_at hbl2.out 0 ⟨#[]⟩ 0 0)
        have HBt : Hid (Below w.heap.size w (setTok (wr.alloc (.cells #[.int .i32 d0, .bool true] 184)) w.heap.size 0 ⟨#[]⟩ 0 0)) := setTok_below HB2.out (Nat.le_refl _) _ _ _ _
        generalize hW : setTok (wr.alloc (.cells #[.int .i32 d0, .bool true] 184)) w.heap.size 0 ⟨#[]⟩ 0 0 = W4 at d0' d1' d2' d3' HBt
        unfold setTok at hW
        rw [hW]
        exact bodyPost_ret (v := .tuple #[.agg #[.int .u8 0, .string ⟨#[]⟩, .int .i64 0, .int .i64 0], .int .i64 0, .int .i64 9]) (by simp [results, results148, go_sem, d0', d1', d2', d3']) rfl ⟨rfl, HBt.out⟩
       | false =>
        have hI2 := hI.alloc (.cells #[.int .i32 d0, .bool false] 184)
        have hlen := enc_le ((ls.drop at0).take j)
        rw [List.length_take, List.length_drop] at hlen
        have cw := Tryz.Builder_WriteRune_k (w.heap.size + 1) (w.heap.size + 1) _ d0 hR.1 hR.2 _ hI2 (by rw [Lib.byteCells_length]; omega) (by simp; omega)
        have CB : Hid (Calls prog 162 #[.pointer (some ⟨w.heap.size + 1, 0, none⟩), .int .i32 d0] (wr.alloc (.cells #[.int .i32 d0, .bool false] 184)) fun e w' => e = .returned (.tuple #[.int .i64 (Lib.runeCells d0).length, .nilIface]) ∧ (Lib.BuilderAtF 198 5 (w.heap.size + 1) (w.heap.size + 1) (.pointer (some ⟨w.heap.size + 1, 0, none⟩)) (Lib.byteCells (enc ((ls.drop at0).take j)) ++ Lib.runeCells d0) w' ∧ Below (w.heap.size + 1) (wr.alloc (.cells #[.int .i32 d0, .bool false] 184)) w' ∧ Lib.OthersKept 5 (some (w.heap.size + 1)) (wr.alloc (.cells #[.int .i32 d0, .bool false] 184)) w')) := cw
        have hnb : anyBad ((ls.drop at0).take (j + 1)) = false := by rw [hsg]; unfold anyBad at hbad ⊢; rw [List.any_append, hbad]; rfl
        have hen : Lib.byteCells (enc ((ls.drop at0).take j)) ++ Lib.runeCells d0 = Lib.byteCells (enc ((ls.drop at0).take (j + 1))) := by
         rw [hsg]
         simp only [enc, List.flatMap_append, List.flatMap_cons, List.flatMap_nil, List.append_nil]
         rw [Lib.byteCells_append, Lib.byteCells_encodeRune]
        have HBB : Hid (Below (w.heap.size + 1) (w.alloc (tokO 0 ⟨#[]⟩ 0 0)) (wr.alloc (.cells #[.int .i32 d0, .bool false] 184))) := hbw.alloc hsz _
        clear cw hI hI2 hbad hsg hR hd hlen hbw
        go_wp2_with fail
        refine CB.out.mono ?_
        rintro e w2 ⟨rfl, h1, b1, k1⟩
        clear CB x0 x1
        go_wp2_with fail
        go_roundg g'
        case measure => omega
        case rel => exact ⟨j + 1, by go_num, by omega, by rw [← hen]; exact Or.inr h1, HBB.out.trans b1, hnb, by omega⟩
     · obtain rfl : j = k := by omega
       have v1 : ¬ (j : Int) < (j : Int) := by omega
       have cs := Tryz.Builder_String_any_k (w.heap.size + 1) (w.heap.size + 1) (enc ((ls.drop at0).take j)) wr hI (by omega)
       have hlen := enc_le ((ls.drop at0).take j)
       rw [List.length_take, List.length_drop] at hlen
       have hA : ans = if wErr (enc ((ls.drop at0).take j)) = 0 then ⟨{ wTok (enc ((ls.drop at0).take j)) with a := at0 }, ((at0 + j : Nat) : Int), 0⟩ else ⟨noTok, 0, wErr (enc ((ls.drop at0).take j))⟩ := by
        rw [← HAN.out]
        simp only [wordAns, ← HK.out, hbad]
        simp
       obtain ⟨S, hS⟩ := gen (enc ((ls.drop at0).take j))
       rw [hS] at cs hlen hA
       have CS : Hid (Calls prog 164 #[.pointer (some ⟨w.heap.size + 1, 0, none⟩)] wr fun e w' => e = .returned (.string ⟨S.toArray⟩) ∧ Below (w.heap.size + 1) wr w') := cs.mono fun _ _ h => ⟨h.1, h.2.2.1⟩
       have CT : Hid (∀ W, Below w.heap.size w W → Calls prog 166 #[.string ⟨S.toArray⟩] W fun e w' => e = .returned (.tuple #[(wTok S).v, .int .i64 (wErr S)]) ∧ Below W.heap.size W w') := fun W h => CW.out S W (by omega) h
       have HBB : Hid (Below (w.heap.size + 1) (w.alloc (tokO 0 ⟨#[]⟩ 0 0)) wr) := hbw
       clear cs hI hbad hS hlen hbw CW CE HK HA HL HR HAN
       go_wp2_with fail
       refine CS.out.mono ?_
       rintro e w2 ⟨rfl, hb2⟩
       have HB2 : Hid (Below (w.heap.size + 1) (w.alloc (tokO 0 ⟨#[]⟩ 0 0)) w2) := HBB.out.trans (hb2)
       clear hb2 CS
       go_wp2_with fail
       obtain ⟨⟨tk, tt, tn, ta⟩, hT⟩ := gen (wTok S)
       obtain ⟨er, hE2⟩ := gen (wErr S)
       rw [hT, hE2] at CT hA
       refine (CT.out _ (W0B.out.trans (HB2.out.mono (by omega)))).mono ?_
       rintro e w3 ⟨rfl, hb3⟩
       have HB3 : Hid (Below (w.heap.size + 1) (w.alloc (tokO 0 ⟨#[]⟩ 0 0)) w3) := HB2.out.trans (hb3.mono (by have := HB2.out.size; simpa using this))
       have hbl : Hid (w3.heap[w.heap.size]? = some (tokO 0 ⟨#[]⟩ 0 0)) := (HB3.out.block _ (by omega)).trans (own_new w _)
       have hs3 : w.heap.size + 1 ≤ w3.heap.size := by have := HB3.out.size; simpa using this
       have HB3' : Hid (Below w.heap.size w w3) := W0B.out.trans (HB3.out.mono (by omega))
       clear hb3 HB2 HBB CT hT hE2
       simp only [Tok.v]
       by_cases h0 : er = 0
       · subst h0
         rw [if_pos rfl] at hA
         subst hA
         have a0 : ∀ o, (w3.alloc o).cell? ⟨w.heap.size, 0, none⟩ = some (.int .u8 0) := fun o => (tok_cells (tok_under hbl.out o)).1
         have a1 : ∀ o, (w3.alloc o).cell? ⟨w.heap.size, 1, none⟩ = some (.string ⟨#[]⟩) := fun o => (tok_cells (tok_under hbl.out o)).2.1
         have a2 : ∀ o, (w3.alloc o).cell? ⟨w.heap.size, 2, none⟩ = some (.int .i64 0) := fun o => (tok_cells (tok_under hbl.out o)).2.2.1
         have a3 : ∀ o, (w3.alloc o).cell? ⟨w.heap.size, 3, none⟩ = some (.int .i64 0) := fun o => (tok_cells (tok_under hbl.out o)).2.2.2.1
         have f0 : ∀ o, (w3.alloc o).frozen? ⟨w.heap.size, 0, none⟩ = false := fun o => (tok_cells (tok_under hbl.out o)).2.2.2.2.1
         have f1 : ∀ o, (w3.alloc o).frozen? ⟨w.heap.size, 1, none⟩ = false := fun o => (tok_cells (tok_under hbl.out o)).2.2.2.2.2.1
         have f2 : ∀ o, (w3.alloc o).frozen? ⟨w.heap.size, 2, none⟩ = false := fun o => (tok_cells (tok_under hbl.out o)).2.2.2.2.2.2.1
         have f3 : ∀ o, (w3.alloc o).frozen? ⟨w.heap.size, 3, none⟩ = false := fun o => (tok_cells (tok_under hbl.out o)).2.2.2.2.2.2.2
         go_wp2_with fail
         obtain ⟨d0', d1', d2', d3', _⟩ := tok_cells (setTok_at (tok_under hbl.out _) tk ⟨tt.toArray⟩ tn at0)
         have HBt : Hid (Below w.heap.size w (setTok (w3.alloc (tokO tk ⟨tt.toArray⟩ tn at0)) w.heap.size tk ⟨tt.toArray⟩ tn at0)) := setTok_below (HB3'.out.alloc (by omega) _) (Nat.le_refl _) _ _ _ _
         generalize hW : setTok (w3.alloc (tokO tk ⟨tt.toArray⟩ tn at0)) w.heap.size tk ⟨tt.toArray⟩ tn at0 = W4 at d0' d1' d2' d3' HBt
         unfold setTok tokO at hW
         rw [hW]
         exact bodyPost_ret (v := .tuple #[.agg #[.int .u8 tk, .string ⟨tt.toArray⟩, .int .i64 tn, .int .i64 at0], .int .i64 q, .int .i64 0]) (by simp [results, results148, go_sem, d0', d1', d2', d3']) rfl ⟨by simp [Ans.v, Tok.v], HBt.out⟩
       · have hne : (er != 0) = true := bne_iff_ne.2 h0
         rw [if_neg h0] at hA
         subst hA
         have a0 : ∀ o, (w3.alloc o).cell? ⟨w.heap.size, 0, none⟩ = some (.int .u8 0) := fun o => (tok_cells (tok_under hbl.out o)).1
         have a1 : ∀ o, (w3.alloc o).cell? ⟨w.heap.size, 1, none⟩ = some (.string ⟨#[]⟩) := fun o => (tok_cells (tok_under hbl.out o)).2.1
         have a2 : ∀ o, (w3.alloc o).cell? ⟨w.heap.size, 2, none⟩ = some (.int .i64 0) := fun o => (tok_cells (tok_under hbl.out o)).2.2.1
         have a3 : ∀ o, (w3.alloc o).cell? ⟨w.heap.size, 3, none⟩ = some (.int .i64 0) := fun o => (tok_cells (tok_under hbl.out o)).2.2.2.1
         have f0 : ∀ o, (w3.alloc o).frozen? ⟨w.heap.size, 0, none⟩ = false := fun o => (tok_cells (tok_under hbl.out o)).2.2.2.2.1
         have f1 : ∀ o, (w3.alloc o).frozen? ⟨w.heap.size, 1, none⟩ = false := fun o => (tok_cells (tok_under hbl.out o)).2.2.2.2.2.1
         have f2 : ∀ o, (w3.alloc o).frozen? ⟨w.heap.size, 2, none⟩ = false := fun o => (tok_cells (tok_under hbl.out o)).2.2.2.2.2.2.1
         have f3 : ∀ o, (w3.alloc o).frozen? ⟨w.heap.size, 3, none⟩ = false := fun o => (tok_cells (tok_under hbl.out o)).2.2.2.2.2.2.2
         go_wp2_with fail
         obtain ⟨d0', d1', d2', d3', _⟩ := tok_cells (setTok_at (tok_under hbl.out _) 0 ⟨#[]⟩ 0 0)
         have HBt : Hid (Below w.heap.size w (setTok (w3.alloc (tokO tk ⟨tt.toArray⟩ tn ta)) w.heap.size 0 ⟨#[]⟩ 0 0)) := setTok_below (HB3'.out.alloc (by omega) _) (Nat.le_refl _) _ _ _ _
         generalize hW : setTok (w3.alloc (tokO tk ⟨tt.toArray⟩ tn ta)) w.heap.size 0 ⟨#[]⟩ 0 0 = W4 at d0' d1' d2' d3' HBt
         unfold setTok tokO at hW
         rw [hW]
         exact bodyPost_ret (v := .tuple #[.agg #[.int .u8 0, .string ⟨#[]⟩, .int .i64 0, .int .i64 0], .int .i64 0, .int .i64 er]) (by simp [results, results148, go_sem, d0', d1', d2', d3']) rfl ⟨rfl, HBt.out⟩
end Go.Proofs.YtfifphfihdhlaaaGreatDoor
