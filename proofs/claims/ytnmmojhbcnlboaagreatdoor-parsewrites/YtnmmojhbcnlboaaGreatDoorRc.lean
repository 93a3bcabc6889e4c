/- How steps and aggregates are written; texts in brackets. -/
import Derived.Test.YtnmmojhbcnlboaaGreatDoorRb
namespace Go.Proofs.YtnmmojhbcnlboaaGreatDoor
open Go.Shelf Go.RowKit Go.Lib Go.Sort
set_option linter.unusedVariables false
set_option linter.unusedSimpArgs false
attribute [local go_sem ↓] Go.wp_at_zero Go.wp_at_succ
/-- The text of a kind in a table. -/
def textP (l : List (List UInt8 × Nat)) (k : Nat) : List UInt8 := match l with
  | [] => []
  | x :: l => if x.2 = k then x.1 else textP l k
def stepTextP (k : Nat) : List UInt8 := textP wordsP k
def aggTextP (k : Nat) : List UInt8 := textP aggsP k
set_option maxRecDepth 100000 in
set_option maxHeartbeats 4000000 in
theorem stepText_any (kk : Nat) (w : World) (hG : WordsIs w) : Calls Tryz.prog 49 #[.int .u8 (kk : Int)] w fun e w' => e = .returned (.string ⟨(stepTextP kk).toArray⟩) ∧ Below w.heap.size w w' := by
  obtain ⟨R, hR⟩ : ∃ R, stepTextP kk = R := ⟨_, rfl⟩
  have HR : Hid (textP (wordsP.drop 0) kk = R) := hR
  rw [hR]
  have HW : Hid (w.rangeAt 2 0 wordC) := hG.1
  obtain ⟨wc, hwc⟩ : ∃ wc, wordC = wc := ⟨_, rfl⟩
  have HIX : Hid (∀ i : Nat, i < 18 → ∀ w : World, (Instr.index 108 (.agg wc.toArray) (.int .i64 (i : Int))).run Tryz.prog w = .ok (.agg #[.string ⟨((wordsP[i]?.getD ([], 0)).1).toArray⟩, .int .u8 (((wordsP[i]?.getD ([], 0)).2 : Nat) : Int)]) w) := by rw [← hwc]; exact stepOf_row
  have HSZ : Hid ((Tryz.prog.info? 108).map (·.size) = some wc.length) := by show _ = _; rw [← hwc]; kernel_rfl
  rw [hwc] at HW
  clear hG hR hwc
  go_enter Tryz.func49, Tryz.ntmps49
  go_wp2_with (refine wpList_load_mid rfl 108 _ rfl 2 0 rfl wc _ HW.out Tryz.underlying108 rfl HSZ.out ?_)
  clear HW
  go_loopg [6] 18 (fun gf s6 wx => ∃ i : Nat, s6 = .int .i64 i ∧ i ≤ 18 ∧ 18 ≤ i + gf ∧ Hid (Below w.heap.size w wx) ∧ Hid (textP (wordsP.drop i) kk = R))
  case atStart => exact ⟨0, rfl, by omega, by omega, Below.refl _ _, HR⟩
  case round =>
    clear HR
    obtain ⟨i, rfl, hi1, hgf, HB, HL⟩ := hrel
    by_cases hi : i < 18
    · obtain ⟨g', rfl⟩ : ∃ g', gk = g' + 1 := ⟨gk - 1, by omega⟩
      have hil : i < wordsP.length := hi
      have hdr : wordsP.drop i = wordsP[i] :: wordsP.drop (i + 1) := List.drop_eq_getElem_cons hil
      have hix := HIX.out i hi
      have hge : wordsP[i]?.getD ([], 0) = wordsP[i] := by rw [List.getElem?_eq_getElem hil]; rfl
      rw [hge] at hix
      have hl := HL.out
      rw [hdr] at hl
      obtain ⟨x, hx⟩ : ∃ x, wordsP[i] = x := ⟨_, rfl⟩
      rw [hx] at hix hl
      obtain ⟨a, k⟩ := x
      obtain ⟨A, hA⟩ : ∃ A : ByteArray, (⟨a.toArray⟩ : ByteArray) = A := ⟨_, rfl⟩
      simp only [hA] at hix
      have HA := hid hA
      have z0 : (0 : Int) ≤ (i : Int) := by omega
      have z1 : (i : Int) < 18 := by omega
      have HB2 : Hid (Below w.heap.size w (wr.alloc (.cells #[.string A, .int .u8 (k : Int)] 107))) := HB.out.alloc HB.out.size _
      by_cases he : k = kk
      · have ht : ((k : Int) == (kk : Int)) = true := by simp [he]
        have HE : Hid (R = a) := by have := hl; rw [textP, if_pos he] at this; exact this.symm
        clear HL hl hdr hx he hge hA
        go_wp2_with fail
        go_ret
        exact ⟨by rw [HE.out, ← HA.out]; rfl, HB2.out⟩
      · have ht : ((k : Int) == (kk : Int)) = false := beq_eq_false_iff_ne.2 (by omega)
        have HE : Hid (textP (wordsP.drop (i + 1)) kk = R) := by have := hl; rw [textP, if_neg he] at this; exact this
        clear HL hl hdr hx he hge hA
        go_wp2_with fail
        go_roundg g'
        case measure => omega
        case rel => exact ⟨i + 1, by go_num, by omega, by omega, HB2, HE⟩
    · have hie : i = 18 := by omega
      have z1 : ¬ (i : Int) < 18 := by omega
      have HE : Hid (R = []) := by have := HL.out; rw [hie] at this; exact this.symm
      clear HL hie
      go_wp2_with fail
      go_ret
      exact ⟨by rw [HE.out]; rfl, HB.out⟩
set_option maxRecDepth 100000 in
set_option maxHeartbeats 4000000 in
theorem aggText_any (kk : Nat) (w : World) (hG : WordsIs w) : Calls Tryz.prog 50 #[.int .u8 (kk : Int)] w fun e w' => e = .returned (.string ⟨(aggTextP kk).toArray⟩) ∧ Below w.heap.size w w' := by
  obtain ⟨R, hR⟩ : ∃ R, aggTextP kk = R := ⟨_, rfl⟩
  have HR : Hid (textP (aggsP.drop 0) kk = R) := hR
  rw [hR]
  have HW : Hid (w.rangeAt 3 0 aggC) := hG.2
  obtain ⟨wc, hwc⟩ : ∃ wc, aggC = wc := ⟨_, rfl⟩
  have HIX : Hid (∀ i : Nat, i < 4 → ∀ w : World, (Instr.index 111 (.agg wc.toArray) (.int .i64 (i : Int))).run Tryz.prog w = .ok (.agg #[.string ⟨((aggsP[i]?.getD ([], 0)).1).toArray⟩, .int .u8 (((aggsP[i]?.getD ([], 0)).2 : Nat) : Int)]) w) := by rw [← hwc]; exact aggOf_row
  have HSZ : Hid ((Tryz.prog.info? 111).map (·.size) = some wc.length) := by show _ = _; rw [← hwc]; kernel_rfl
  rw [hwc] at HW
  clear hG hR hwc
  go_enter Tryz.func50, Tryz.ntmps50
  go_wp2_with (refine wpList_load_mid rfl 111 _ rfl 3 0 rfl wc _ HW.out Tryz.underlying111 rfl HSZ.out ?_)
  clear HW
  go_loopg [6] 4 (fun gf s6 wx => ∃ i : Nat, s6 = .int .i64 i ∧ i ≤ 4 ∧ 4 ≤ i + gf ∧ Hid (Below w.heap.size w wx) ∧ Hid (textP (aggsP.drop i) kk = R))
  case atStart => exact ⟨0, rfl, by omega, by omega, Below.refl _ _, HR⟩
  case round =>
    clear HR
    obtain ⟨i, rfl, hi1, hgf, HB, HL⟩ := hrel
    by_cases hi : i < 4
    · obtain ⟨g', rfl⟩ : ∃ g', gk = g' + 1 := ⟨gk - 1, by omega⟩
      have hil : i < aggsP.length := hi
      have hdr : aggsP.drop i = aggsP[i] :: aggsP.drop (i + 1) := List.drop_eq_getElem_cons hil
      have hix := HIX.out i hi
      have hge : aggsP[i]?.getD ([], 0) = aggsP[i] := by rw [List.getElem?_eq_getElem hil]; rfl
      rw [hge] at hix
      have hl := HL.out
      rw [hdr] at hl
      obtain ⟨x, hx⟩ : ∃ x, aggsP[i] = x := ⟨_, rfl⟩
      rw [hx] at hix hl
      obtain ⟨a, k⟩ := x
      obtain ⟨A, hA⟩ : ∃ A : ByteArray, (⟨a.toArray⟩ : ByteArray) = A := ⟨_, rfl⟩
      simp only [hA] at hix
      have HA := hid hA
      have z0 : (0 : Int) ≤ (i : Int) := by omega
      have z1 : (i : Int) < 4 := by omega
      have HB2 : Hid (Below w.heap.size w (wr.alloc (.cells #[.string A, .int .u8 (k : Int)] 110))) := HB.out.alloc HB.out.size _
      by_cases he : k = kk
      · have ht : ((k : Int) == (kk : Int)) = true := by simp [he]
        have HE : Hid (R = a) := by have := hl; rw [textP, if_pos he] at this; exact this.symm
        clear HL hl hdr hx he hge hA
        go_wp2_with fail
        go_ret
        exact ⟨by rw [HE.out, ← HA.out]; rfl, HB2.out⟩
      · have ht : ((k : Int) == (kk : Int)) = false := beq_eq_false_iff_ne.2 (by omega)
        have HE : Hid (textP (aggsP.drop (i + 1)) kk = R) := by have := hl; rw [textP, if_neg he] at this; exact this
        clear HL hl hdr hx he hge hA
        go_wp2_with fail
        go_roundg g'
        case measure => omega
        case rel => exact ⟨i + 1, by go_num, by omega, by omega, HB2, HE⟩
    · have hie : i = 4 := by omega
      have z1 : ¬ (i : Int) < 4 := by omega
      have HE : Hid (R = []) := by have := HL.out; rw [hie] at this; exact this.symm
      clear HL hie
      go_wp2_with fail
      go_ret
      exact ⟨by rw [HE.out]; rfl, HB.out⟩
set_option maxRecDepth 100000 in
theorem clone_any (s : ByteArray) (w : World) (hs : s.size ≤ 281474976710656) : Calls Tryz.prog 48 #[.string s] w fun e w' => e = .returned (.string s) ∧ Below w.heap.size w w' := by
  have C := hid (Tryz.stringslite_Clone s w hs)
  go_enter Tryz.func48, Tryz.ntmps48
  go_wp2_with fail
  refine C.out.mono ?_
  rintro e w1 ⟨rfl, hb⟩
  have HB := hid hb
  clear C hb
  go_wp2_with fail
  go_ret
  exact ⟨rfl, HB.out⟩
set_option maxRecDepth 100000 in
set_option maxHeartbeats 1000000 in
theorem token_any (t : Tok) (w : World) (hl : t.t.length ≤ 100000) (hn : I64 t.n) (hG : Glob2 w) : Calls Tryz.prog 47 #[t.v] w fun e w' => e = .returned (.string ⟨(showP t).1.toArray⟩) ∧ Below w.heap.size w w' := by
  obtain ⟨s, hv, hst⟩ := tok_str t
  obtain ⟨W0, hW0⟩ : ∃ W0, w.alloc (.cells #[.int .u8 t.k, .string s, .int .i64 t.n, .int .i64 t.a] 85) = W0 := ⟨_, rfl⟩
  have hb0 : Below w.heap.size w W0 := by rw [← hW0]; exact below_alloc _ _
  have hg0 : W0.heap[w.heap.size]? = some (.cells #[.int .u8 t.k, .string s, .int .i64 t.n, .int .i64 t.a] 85 (0, 0)) := by rw [← hW0]; exact heap_alloc_new w _
  have HR0 : Hid (W0.rangeAt w.heap.size 0 [.int .u8 t.k, .string s, .int .i64 t.n, .int .i64 t.a]) := fun j u hu => by rw [Nat.zero_add]; exact cell_of_row hg0 (by simpa using hu)
  have C := show_any t W0 (by omega) hn.1 hn.2 (hG.below hb0)
  rw [hv] at C ⊢
  obtain ⟨A, hA⟩ : ∃ A : ByteArray, (⟨(showP t).1.toArray⟩ : ByteArray) = A := ⟨_, rfl⟩
  obtain ⟨y, hy⟩ : ∃ y, (showP t).2 = y := ⟨_, rfl⟩
  rw [hA, hy] at C
  rw [hA]
  have C := hid C
  have HB := hid hb0
  clear hb0 hg0 hv hst hA hy hl hn hG
  go_enter Tryz.func47, Tryz.ntmps47
  go_wp2_with (refine wpList_load_mid rfl 85 _ rfl w.heap.size 0 rfl _ _ HR0.out Tryz.underlying85 rfl sz_tok ?_)
  refine C.out.mono ?_
  rintro e w1 ⟨rfl, hb1⟩
  have HB1 : Hid (Below w.heap.size w w1) := HB.out.trans (hb1.mono HB.out.size)
  clear C hb1 HR0 hW0
  go_wp2_with fail
  go_ret
  exact ⟨rfl, HB1.out⟩
/-- Texts of any length. -/
def rTxt : Rel (List UInt8) := fun K W cs x => cs = [.string ⟨x.toArray⟩] ∧ x.length ≤ 1000000000
theorem mTxt : Mono rTxt := fun _ _ _ _ _ _ _ _ h => h
theorem ListIs.weak {α : Type} {r1 r2 : Rel α} {size bytes : Nat} {K : Nat → Prop} {W : World} {v : Value} {xs : List α} (h : ListIs r1 size bytes K W v xs) (hr : ∀ K W cs x, r1 K W cs x → r2 K W cs x) : ListIs r2 size bytes K W v xs := by
  obtain ⟨p, c, e, hb, hp⟩ := h
  refine ⟨p, c, e, hb, fun h0 => ?_⟩
  obtain ⟨b, o, e2, hK, hc⟩ := hp h0
  refine ⟨b, o, e2, hK, fun j hj => ?_⟩
  obtain ⟨cs, h1, h2, h3⟩ := hc j hj
  exact ⟨cs, h1, h2, hr _ _ _ _ h3⟩
theorem str_txt {size bytes : Nat} {K : Nat → Prop} {W : World} {v : Value} {xs : List (List UInt8)} (h : ListIs rStr size bytes K W v xs) : ListIs rTxt size bytes K W v xs := h.weak fun _ _ _ _ h => ⟨h.1, by have := h.2; omega⟩
theorem txt_at {K : Nat → Prop} {w : World} {q : Option Addr} {n c : Nat} {l : List (List UInt8)} (h : ListIs rTxt 1 16 K w (.slice q n c) l) (hl : 0 < l.length) : ∃ b o, q = some ⟨b, o, none⟩ ∧ K b ∧ ∀ i (hi : i < l.length), w.cell? ⟨b, o + i, none⟩ = some (.string ⟨(l[i]).toArray⟩) ∧ (l[i]).length ≤ 1000000000 := by
  obtain ⟨q', c', e, _, hp⟩ := h
  obtain ⟨b, o, rfl, hKb, hc⟩ := hp hl
  cases e
  refine ⟨b, o, rfl, hKb, fun i hi => ?_⟩
  obtain ⟨cs, _, hcell, rfl, hh⟩ := hc i hi
  exact ⟨by simpa using hcell 0 _ rfl, hh⟩
/-- A text behind those that a builder has. -/
theorem write_str (B : Nat) (acc : List UInt8) (x : List UInt8) (s : ByteArray) (w : World) (hx : s = ⟨x.toArray⟩) (h : Lib.IsBuilderF 58 5 B B (Lib.byteCells acc) w) (hlen : acc.length + x.length ≤ 140737488355328) (hB : B ≤ w.heap.size) : Calls Tryz.prog 32 #[.pointer (some ⟨B, 0, none⟩), .string s] w fun e w' => e = .returned (.tuple #[.int .i64 (x.length : Int), .nilIface]) ∧ Lib.IsBuilderF 58 5 B B (Lib.byteCells (acc ++ x)) w' ∧ Below B w w' := by
  subst hx
  have hq : (⟨x.toArray⟩ : ByteArray).size = x.length := by show x.toArray.size = _; simp
  refine (Tryz.Builder_WriteString_k B B _ ⟨x.toArray⟩ w h (by rw [Lib.byteCells_length, hq]; exact hlen) hB).mono fun _ _ h' => ⟨by rw [h'.1, hq], ?_, h'.2.2.1⟩
  rw [Lib.byteCells_append]
  exact Or.inr h'.2.1
def partsL (l : List (List UInt8)) : List UInt8 := l.flatMap fun x => 32 :: x
def bracketsP (h : List UInt8) (l : List (List UInt8)) : List UInt8 := 40 :: h ++ partsL l ++ [41]
theorem partsL_app (a b : List (List UInt8)) : partsL (a ++ b) = partsL a ++ partsL b := by simp [partsL]
theorem cat1 (b : UInt8) (s : ByteArray) (x : List UInt8) (h : s = ⟨x.toArray⟩) : (⟨#[b]⟩ : ByteArray) ++ s = ⟨(b :: x).toArray⟩ := by
  subst h
  apply ByteArray.ext
  simp
set_option maxRecDepth 100000 in
set_option maxHeartbeats 4000000 in
theorem brackets_any (K : Nat → Prop) (h : List UInt8) (q : Option Addr) (c : Nat) (l : List (List UInt8)) (w : World) (hl : ListIs rTxt 1 16 K w (.slice q l.length c) l) (hK : ∀ b, K b → b < w.heap.size) (hn : l.length ≤ 100) (hh : h.length ≤ 1000) :
    Calls Tryz.prog 15 #[.string ⟨h.toArray⟩, .slice q l.length c] w fun e w' => e = .returned (.string ⟨(bracketsP h l).toArray⟩) ∧ Below w.heap.size w w' := by
  obtain ⟨s, hs⟩ : ∃ s : ByteArray, (⟨h.toArray⟩ : ByteArray) = s := ⟨_, rfl⟩
  have hsz : s.size = h.length := by rw [← hs]; show h.toArray.size = _; simp
  obtain ⟨W0, hW0⟩ : ∃ W0, w.alloc (.cells #[.pointer none, .slice none 0 0] 58) = W0 := ⟨_, rfl⟩
  have hb0 : Below w.heap.size w W0 := by rw [← hW0]; exact below_alloc _ _
  have hI0 : Lib.IsBuilderF 58 5 w.heap.size w.heap.size (Lib.byteCells []) W0 := by rw [← hW0]; exact Lib.IsBuilderF.of (Lib.fresh_isBuilder 58 5 w)
  have C0 : Hid (Calls Tryz.prog 32 #[.pointer (some ⟨w.heap.size, 0, none⟩), .string ((⟨#[40]⟩ : ByteArray) ++ s)] W0 fun e w' => e = .returned (.tuple #[.int .i64 (((40 :: h).length : Nat) : Int), .nilIface]) ∧ Lib.IsBuilderF 58 5 w.heap.size w.heap.size (Lib.byteCells (40 :: h)) w' ∧ Below w.heap.size W0 w') :=
    write_str w.heap.size [] (40 :: h) _ W0 (cat1 40 s h hs.symm) hI0 (by simp; omega) hb0.size
  have HL := hid hl
  have HK := hid hK
  have HH := hid hh
  have hz1 : ¬ 9223372036854775807 < 1 + s.size := by omega
  obtain ⟨tot, htot⟩ : ∃ t, bracketsP h l = t := ⟨_, rfl⟩
  have HT : Hid (40 :: h ++ partsL l ++ [41] = tot) := htot
  have HB0 := hid hb0
  obtain ⟨n, hln⟩ : ∃ n, l.length = n := ⟨_, rfl⟩
  have HN := hid hln
  rw [hs, htot, hln]
  rw [hln] at hn
  clear hs hl hK hh htot hI0 hb0 hln
  go_enter Tryz.func15, Tryz.ntmps15
  go_wp2_with fail
  refine C0.out.mono ?_
  rintro e w1 ⟨rfl, hI1, hb1⟩
  have HI1 := hid hI1
  have HB1 : Hid (Below w.heap.size w w1) := HB0.out.trans hb1
  clear C0 hI1 hb1 HB0 hW0 hz1
  go_wp2_with fail
  go_loopg [13] n (fun gf s13 wx => ∃ (i : Nat), s13 = .int .i64 i ∧ i ≤ n ∧ n ≤ i + gf ∧ Hid (Below w.heap.size w wx) ∧ Hid (Lib.IsBuilderF 58 5 w.heap.size w.heap.size (Lib.byteCells (40 :: h ++ partsL (l.take i))) wx) ∧ Hid ((40 :: h ++ partsL (l.take i)).length ≤ 2000 + i * 1000000001))
  case atStart => exact ⟨0, rfl, by omega, by omega, HB1, by have := HI1.out; show Lib.IsBuilderF _ _ _ _ _ _; simpa [partsL] using this, by have := HH.out; show _ ≤ _; simp [partsL]; omega⟩
  case round =>
    clear HI1 HB1
    obtain ⟨i, rfl, hi1, hgf, HB, HI, HLN⟩ := hrel
    by_cases hi : i < n
    · obtain ⟨g', rfl⟩ : ∃ g', gk = g' + 1 := ⟨gk - 1, by omega⟩
      have hil : i < l.length := by rw [HN.out]; exact hi
      obtain ⟨b, o, hq, hKb, hc⟩ := txt_at (HL.out.mono mTxt (fun _ h => h) (kept_of HK.out HB.out)) (by omega)
      subst hq
      obtain ⟨hcell, hlen⟩ := hc i hil
      obtain ⟨y, hy⟩ : ∃ y, l[i] = y := ⟨_, rfl⟩
      rw [hy] at hcell hlen
      obtain ⟨S, hS⟩ : ∃ S : ByteArray, (⟨y.toArray⟩ : ByteArray) = S := ⟨_, rfl⟩
      have hSz : S.size = y.length := by rw [← hS]; show y.toArray.size = _; simp
      rw [hS] at hcell
      have htk : l.take (i + 1) = l.take i ++ [y] := by rw [← hy]; exact List.take_succ_eq_append_getElem hil
      have happ : 40 :: h ++ partsL (l.take (i + 1)) = (40 :: h ++ partsL (l.take i)) ++ (32 :: y) := by rw [htk, partsL_app]; simp [partsL]
      obtain ⟨acc, hacc⟩ : ∃ acc, 40 :: h ++ partsL (l.take i) = acc := ⟨_, rfl⟩
      rw [hacc] at happ HI HLN
      have C : Hid (Calls Tryz.prog 32 #[.pointer (some ⟨w.heap.size, 0, none⟩), .string ((⟨#[32]⟩ : ByteArray) ++ S)] wr fun e w' => e = .returned (.tuple #[.int .i64 (((32 :: y).length : Nat) : Int), .nilIface]) ∧ Lib.IsBuilderF 58 5 w.heap.size w.heap.size (Lib.byteCells (acc ++ (32 :: y))) w' ∧ Below w.heap.size wr w') :=
        write_str w.heap.size acc (32 :: y) _ wr (cat1 32 S y hS.symm) HI.out (by have := HLN.out; simp only [List.length_cons]; omega) HB.out.size
      have HLN2 : Hid ((40 :: h ++ partsL (l.take (i + 1))).length ≤ 2000 + (i + 1) * 1000000001) := by show _ ≤ _; rw [happ, List.length_append, List.length_cons]; have := HLN.out; omega
      have HAPP := hid happ
      have hz1 : ¬ 9223372036854775807 < 1 + S.size := by omega
      have z0 : (0 : Int) ≤ (i : Int) := by omega
      have z1 : (i : Int) < (n : Int) := by omega
      clear hc hlen hy hS hSz htk happ hacc HI HLN hil
      go_wp2_with fail
      refine C.out.mono ?_
      rintro e w2 ⟨rfl, hI2, hb2⟩
      have HB2 : Hid (Below w.heap.size w w2) := HB.out.trans hb2
      have HI2 : Hid (Lib.IsBuilderF 58 5 w.heap.size w.heap.size (Lib.byteCells (40 :: h ++ partsL (l.take (i + 1)))) w2) := by show Lib.IsBuilderF _ _ _ _ _ _; rw [HAPP.out]; exact hI2
      clear C hI2 hb2 HB hcell hz1
      go_wp2_with fail
      go_roundg g'
      case measure => omega
      case rel => exact ⟨i + 1, by go_num, by omega, by omega, HB2, HI2, HLN2⟩
    · have z1 : ¬ (i : Int) < (n : Int) := by omega
      have hE : (40 :: h ++ partsL (l.take i)) ++ [41] = tot := by rw [List.take_of_length_le (by rw [HN.out]; omega)]; exact HT.out
      obtain ⟨acc, hacc⟩ : ∃ acc, 40 :: h ++ partsL (l.take i) = acc := ⟨_, rfl⟩
      rw [hacc] at hE HI HLN
      have C : Hid (Calls Tryz.prog 32 #[.pointer (some ⟨w.heap.size, 0, none⟩), .string ⟨#[41]⟩] wr fun e w' => e = .returned (.tuple #[.int .i64 ((([41] : List UInt8).length : Nat) : Int), .nilIface]) ∧ Lib.IsBuilderF 58 5 w.heap.size w.heap.size (Lib.byteCells tot) w' ∧ Below w.heap.size wr w') := by
        rw [← hE]
        exact write_str w.heap.size acc [41] _ wr rfl HI.out (by have := HLN.out; simp only [List.length_singleton]; omega) HB.out.size
      clear hE hacc HI HLN
      go_wp2_with fail
      refine C.out.mono ?_
      rintro e w2 ⟨rfl, hI2, hb2⟩
      have HB2 : Hid (Below w.heap.size w w2) := HB.out.trans hb2
      have C2 := hid (Tryz.Builder_String_any_k w.heap.size w.heap.size tot w2 hI2 HB2.out.size)
      clear C hI2 hb2 HB
      go_wp2_with fail
      refine C2.out.mono ?_
      rintro e w3 ⟨rfl, _, hb3, _⟩
      have HB3 : Hid (Below w.heap.size w w3) := HB2.out.trans hb3
      clear C2 hb3
      go_wp2_with fail
      go_ret
      exact ⟨rfl, HB3.out⟩
end Go.Proofs.YtnmmojhbcnlboaaGreatDoor
