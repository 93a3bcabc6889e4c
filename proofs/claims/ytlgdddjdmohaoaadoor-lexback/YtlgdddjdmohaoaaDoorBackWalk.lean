/- The law LexBack returns true, of any tokens. -/
import Derived.Test.YtlgdddjdmohaoaaDoorPu
import Derived.Test.YtlgdddjdmohaoaaDoorSm
namespace Go.Proofs.YtlgdddjdmohaoaaDoor
open Go.RowKit Go.Lib
set_option linter.unusedVariables false
set_option linter.unusedSimpArgs false
attribute [local go_sem ↓] Go.wp_at_zero Go.wp_at_succ

/-- The first i without their places, the others as they are. -/
def mz : Nat → List Tok → List Tok
  | 0, ts => ts
  | i + 1, [] => []
  | i + 1, t :: ts => zeroA t :: mz i ts
theorem mz_len : ∀ i ts, (mz i ts).length = ts.length
  | 0, ts => by simp [mz]
  | i + 1, [] => rfl
  | i + 1, t :: ts => by simp [mz, mz_len i ts]
theorem mz_end : ∀ ts, mz ts.length ts = ts.map zeroA
  | [] => rfl
  | t :: ts => by simp [mz, mz_end ts]
theorem mz_set : ∀ (i : Nat) (ts : List Tok) (h : i < ts.length), (flatK (mz i ts)).set (i * 4 + 3) (.int .i64 0) = flatK (mz (i + 1) ts)
  | 0, t :: ts, _ => by simp [mz, flatK, zeroA]
  | i + 1, t :: ts, h => by
    have ih := mz_set i ts (by simpa using h)
    have e : ∀ (u : Tok) (x : List Tok), flatK (u :: x) = [.int .u8 u.k, .string ⟨u.t.toArray⟩, .int .i64 u.n, .int .i64 u.a] ++ flatK x := fun u x => rfl
    simp only [mz]
    rw [e, e, show (i + 1) * 4 + 3 = (i * 4 + 3) + 4 by omega, ← ih]
    rfl
theorem own_set {w : World} {base g cap n i : Nat} {ys : List Value} (h : w.ownsRow base 27 4 (.slice (some ⟨g, 0, none⟩) n cap) n ys) (v : Value) :
    (w.setCell ⟨g, i, none⟩ v).ownsRow base 27 4 (.slice (some ⟨g, 0, none⟩) n cap) n (ys.set i v) ∧ w.frozen? ⟨g, i, none⟩ = false ∧ base ≤ g ∧ g < w.heap.size := by
  obtain ⟨h1, ⟨h2, _⟩ | ⟨g', cap', cur, h2, hb, hg, hc1, hc2, hc3, hc4⟩⟩ := h
  · cases h2
  · cases h2
    refine ⟨⟨by simpa using h1, .inr ⟨g, cap, cur.setIfInBounds i v, rfl, hb, ?_, hc1, hc2, by simpa using hc3, ?_⟩⟩, ?_, hb, (Array.getElem?_eq_some_iff.1 hg).1⟩
    · simp only [World.setCell, Array.getElem?_modify, hg, if_true, Option.map_some]
      rfl
    · rw [Array.toList_setIfInBounds, List.take_set, hc4]
    · simp [World.frozen?, hg]
/-- The cells of tokens. -/
def TokIs (w : World) (b o : Nat) (ts : List Tok) : Prop := ∀ (j : Nat) (h : j < ts.length), w.cell? ⟨b, o + j * 4, none⟩ = some (.int .u8 ts[j].k) ∧ w.cell? ⟨b, o + j * 4 + 1, none⟩ = some (.string ⟨ts[j].t.toArray⟩) ∧ w.cell? ⟨b, o + j * 4 + 2, none⟩ = some (.int .i64 ts[j].n) ∧ w.cell? ⟨b, o + j * 4 + 3, none⟩ = some (.int .i64 ts[j].a)
def okT (t : Tok) : Prop := t.t.length ≤ 9223372036854775807 ∧ -9223372036854775808 ≤ t.n ∧ t.n ≤ 9223372036854775807
theorem owns_other {w w' : World} {base : Nat} {e : TypeId} {size : Nat} {v : Value} {n : Nat} {xs : List Value} (h : w.ownsRow base e size v n xs) (hk : ∀ g, base ≤ g → g < w.heap.size → w'.heap[g]? = w.heap[g]?) : w'.ownsRow base e size v n xs := by
  obtain ⟨h1, h2⟩ := h
  refine ⟨h1, ?_⟩
  rcases h2 with h2 | ⟨g, cap, cur, a, b, c, d⟩
  · exact .inl h2
  · exact .inr ⟨g, cap, cur, a, b, by rw [hk g b (Array.getElem?_eq_some_iff.1 c).1]; exact c, d⟩
theorem owns_later {w w' : World} {base : Nat} {e : TypeId} {size : Nat} {v : Value} {n : Nat} {xs : List Value} (h : w.ownsRow base e size v n xs) (hb : Below w.heap.size w w') : w'.ownsRow base e size v n xs := owns_other h fun g _ hg => hb.block g hg
theorem zero_flat (us : List Tok) (t : Tok) : flatK ((us ++ [t]).map zeroA) = flatK (us.map zeroA) ++ [.int .u8 t.k, .string ⟨t.t.toArray⟩, .int .i64 t.n, .int .i64 0] := by
  simp [flatK, zeroA]
theorem cell_four_at (w : World) (a b c d : Value) (t : TypeId) (g : Nat) (hg : g = w.heap.size) : ∀ j u, [a, b, c, d][j]? = some u → (w.alloc (.cells #[a, b, c, d] t)).cell? ((⟨g, 0, none⟩ : Addr).add j) = some u := by
  subst hg
  exact cell_four_new w a b c d t
theorem tokAt_own {w : World} {base : Nat} {v : Value} {Z : List Tok} (h : w.ownsRow base 27 4 v Z.length (flatK Z)) : TokAt w v Z := by
  have h' := h
  obtain ⟨h1, ⟨rfl, h2⟩ | ⟨g, cap, cur, rfl, hb, hg, _⟩⟩ := h
  · have : Z = [] := List.eq_nil_of_length_eq_zero h2
    subst this
    exact ⟨none, 0, rfl, fun hne => absurd rfl hne⟩
  · exact ⟨_, cap, rfl, fun _ => ⟨g, rfl, (Array.getElem?_eq_some_iff.1 hg).1, fun j hj => World.ownsRow.cellAt h' j hj⟩⟩
def AllS (us : List Tok) : Prop := ∀ t ∈ us, Lib.validD (writeP t) = true ∧ Solid (lets (writeP t)) t
set_option maxRecDepth 100000 in
set_option maxHeartbeats 16000000 in
theorem back_core (p : Option Addr) (c : Nat) (ts : List Tok) (how : Int) (sb : ByteArray) (w : World) (hG : Glob2 w) (hl : ts.length ≤ 9223372036854775807) (hok : ∀ t ∈ ts, okT t) (hA : 0 < ts.length → ∃ b o, p = some ⟨b, o, none⟩ ∧ b < w.heap.size ∧ TokIs w b o ts)
    (h0 : 0 ≤ how) (h1 : how ≤ 255) (k : Nat) (hk : how % 4 = k) (hsb : [⟨#[32]⟩, ⟨#[9, 13, 10]⟩, ⟨#[59, 195, 169, 41, 10]⟩, (⟨#[32, 59, 32, 34, 10, 32]⟩ : ByteArray)][k]? = some sb) :
    Calls Tryd.prog 3 #[.slice p ts.length c, .int .u8 how] w fun e w' => e = .returned (.bool true) ∧ Below w.heap.size w w' := by
  obtain ⟨i0, hi, hz0, hz1, hz2⟩ := info_parts info28
  have CV : Hid (Calls Tryd.prog 4 #[] w fun e w' => e = .returned (.bool true) ∧ Below w.heap.size w w') := lives_any w hG
  have hk4 : k = 0 ∨ k = 1 ∨ k = 2 ∨ k = 3 := by omega
  have hsep : (∃ sl, Sep sb.data.toList sl) ∧ 1 ≤ sb.size ∧ sb.size ≤ 6 := by
    rcases hk4 with rfl | rfl | rfl | rfl
    · simp at hsb; subst hsb; exact ⟨⟨_, sep0⟩, by decide, by decide⟩
    · simp at hsb; subst hsb; exact ⟨⟨_, sep1⟩, by decide, by decide⟩
    · simp at hsb; subst hsb; exact ⟨⟨_, sep2⟩, by decide, by decide⟩
    · simp at hsb; subst hsb; exact ⟨⟨_, sep3⟩, by decide, by decide⟩
  have HSEP : Hid (∃ sl, Sep sb.data.toList sl) := hsep.1
  obtain ⟨_, zs1, zs2⟩ := hsep
  have HG : Hid (Glob2 w) := hG
  have HOK : Hid (∀ t ∈ ts, okT t) := hok
  have HA : Hid (0 < ts.length → ∃ b o, p = some ⟨b, o, none⟩ ∧ b < w.heap.size ∧ TokIs w b o ts) := hA
  clear hG hok hA
  go_enter Tryd.func3, Tryd.ntmps3
  go_wp2_with fail
  refine CV.out.mono ?_
  rintro e w1 ⟨rfl, hb1⟩
  have HB1 : Hid (Below w.heap.size w w1) := hb1
  clear hb1 CV
  rcases hk4 with rfl | rfl | rfl | rfl
  all_goals
    simp at hsb hk
    have HSB : Hid (_ = sb) := hsb
    clear hsb
    go_wp2_with fail
    obtain ⟨w2, hw2⟩ : ∃ w2, w1.alloc (.cells #[.string ⟨#[32]⟩, .string ⟨#[9, 13, 10]⟩, .string ⟨#[59, 195, 169, 41, 10]⟩, .string ⟨#[32, 59, 32, 34, 10, 32]⟩] 9) = w2 := ⟨_, rfl⟩
    have HB2 : Hid (Below w.heap.size w w2) := by rw [← hw2]; exact HB1.out.alloc HB1.out.size _
    rw [hw2, HSB.out]
    clear hw2 HSB hk HB1
    go_loopg [6, 7, 25] ts.length (fun gf s6 s7 s25 wx => ∃ (i : Nat) (us : List Tok) (tx : ByteArray), s6 = .string tx ∧ s25 = .int .i64 i ∧ i ≤ ts.length ∧ wx.ownsRow w2.heap.size 27 4 s7 us.length (flatK (us.map zeroA)) ∧ Below w2.heap.size w2 wx ∧ tx.size ≤ 2048 ∧ us.length ≤ tx.size ∧ Hid (tx.data.toList = backT sb.data.toList us) ∧ Hid (AllS us) ∧ ts.length ≤ i + gf)
    case atStart => exact ⟨0, [], ⟨#[]⟩, rfl, rfl, by omega, World.ownsRow_nil _ _ _ _, Below.refl _ _, by decide, by simp, (by show _ = _; rfl), (by intro t ht; cases ht), by omega⟩
    case round =>
      obtain ⟨i, us, tx, rfl, rfl, hil, hown, hbw, htx, hul, HT, HU, hgf⟩ := hrel
      have HW : Hid (Below w.heap.size w wr) := HB2.out.trans (hbw.mono HB2.out.size)
      by_cases hlt : i < ts.length
      · obtain ⟨g', rfl⟩ : ∃ g', gk = g' + 1 := ⟨gk - 1, by omega⟩
        have y0 : (i : Int) < (ts.length : Int) := by omega
        have y1 : (0 : Int) ≤ (i : Int) := by omega
        obtain ⟨b, o, rfl, hb, hti⟩ := HA.out (by omega)
        obtain ⟨x0, x1, x2, x3⟩ := hti i hlt
        rw [← HW.out.cell (p := ⟨b, _, none⟩) hb] at x0 x1 x2 x3
        have hbr : b < wr.heap.size := Nat.lt_of_lt_of_le hb HW.out.size
        have hot := HOK.out _ (List.getElem_mem hlt)
        obtain ⟨⟨tk, tt, tn, ta⟩, hte⟩ : ∃ t, ts[i] = t := ⟨_, rfl⟩
        rw [hte] at x0 x1 x2 x3 hot
        simp only at x0 x1 x2 x3
        obtain ⟨hot1, hot2, hot3⟩ := hot
        simp only at hot1 hot2 hot3
        have CS : Hid (∀ W, Below w.heap.size w W → Calls Tryd.prog 5 #[.agg #[.int .u8 tk, .string ⟨tt.toArray⟩, .int .i64 tn, .int .i64 ta]] W fun e w' => e = .returned (.tuple #[.string ⟨(showP ⟨tk, tt, tn, ta⟩).1.toArray⟩, .int .i64 (showP ⟨tk, tt, tn, ta⟩).2]) ∧ Below W.heap.size W w') := fun W h => show_any ⟨tk, tt, tn, ta⟩ W hot1 hot2 hot3 (HG.out.below h)
        have hsc := show_cases ⟨tk, tt, tn, ta⟩
        obtain ⟨⟨S, er⟩, hS⟩ : ∃ P, showP ⟨tk, tt, tn, ta⟩ = P := ⟨_, rfl⟩
        rw [hS] at CS hsc
        simp only at hsc
        clear hte hS hti
        go_wp2_with fail
        refine (CS.out _ (HW.out.alloc HW.out.size _)).mono ?_
        rintro e w3 ⟨rfl, hb3⟩
        have hb3' : Below wr.heap.size wr w3 := ((Below.refl _ _).alloc (Nat.le_refl _) _).trans (hb3.mono (by simp))
        have own3 : w3.ownsRow w2.heap.size 27 4 _ us.length (flatK (us.map zeroA)) := owns_later hown hb3'
        have q3 : w3.heap[wr.heap.size]? = some (tokO tk ⟨tt.toArray⟩ tn ta) := by
          rw [hb3.block _ (by simp)]
          exact heap_alloc_new wr _
        have hbw3 : Below w2.heap.size w2 w3 := hbw.trans (hb3'.mono hbw.size)
        clear hb3 CS x0 x1 x2 x3
        rcases hsc with ⟨he, rfl⟩ | ⟨rfl, hrd, hwr, hl256⟩
        · have t1 : (er != 0) = true := bne_iff_ne.2 he
          clear he
          go_wp2
          go_roundg g'
          case measure => omega
          case rel => exact ⟨i + 1, us, tx, rfl, by go_num, by omega, own3, hbw3, htx, hul, HT, HU, by omega⟩
        · have hsz : (⟨S.toArray⟩ : ByteArray).size = S.length := by show S.toArray.size = _; simp
          have hSl : S.length ≤ 2000 := by rw [hwr]; exact writeP_len _ (by simpa using hl256) hot2 hot3
          obtain ⟨SB, hSB⟩ : ∃ s, (⟨S.toArray⟩ : ByteArray) = s := ⟨_, rfl⟩
          rw [hSB] at hsz ⊢
          have zS : SB.size ≤ 2000 := by omega
          by_cases hlong : 2048 < tx.size + SB.size + sb.size
          · have t1 : (2048 : Int) < (tx.size : Int) + (SB.size : Int) + (sb.size : Int) := by omega
            clear hrd hwr hl256 hSB hsz
            go_wp2
            go_roundg g'
            case measure => omega
            case rel => exact ⟨i + 1, us, tx, rfl, by go_num, by omega, own3, hbw3, htx, hul, HT, HU, by omega⟩
          · have t1 : ¬ (2048 : Int) < (tx.size : Int) + (SB.size : Int) + (sb.size : Int) := by omega
            obtain ⟨_, _, _, c3, _, _, _, f3⟩ := tok_cells q3
            have q4 := setAt_at q3 0
            obtain ⟨d0, d1, d2, d3, _⟩ := tok_cells q4
            have hsz3 : wr.heap.size < w3.heap.size := (Array.getElem?_eq_some_iff.1 q3).1
            have own4 : (w3.setCell ⟨wr.heap.size, 3, none⟩ (.int .i64 0)).ownsRow w2.heap.size 27 4 _ us.length (flatK (us.map zeroA)) := owns_other hown fun g _ hg => (Below.heap_setCell _ _ _ _ (show g ≠ wr.heap.size by omega)).trans (hb3'.block g hg)
            have hbw4 : Below w2.heap.size w2 (w3.setCell ⟨wr.heap.size, 3, none⟩ (.int .i64 0)) := hbw3.setCell hbw.size _
            have hs4 : (w3.setCell ⟨wr.heap.size, 3, none⟩ (.int .i64 0)).heap.size = w3.heap.size := by simp [World.setCell]
            have z1 : ¬ 9223372036854775807 < SB.size + sb.size := by omega
            have z2 : ¬ 9223372036854775807 < tx.size + (SB.size + sb.size) := by omega
            have OW4 : Hid ((w3.setCell ⟨wr.heap.size, 3, none⟩ (.int .i64 0)).ownsRow w2.heap.size 27 4 _ us.length (flatK (us.map zeroA))) := own4
            have HBW4 : Hid (Below w2.heap.size w2 (w3.setCell ⟨wr.heap.size, 3, none⟩ (.int .i64 0))) := hbw4
            have HS4 : Hid ((w3.setCell ⟨wr.heap.size, 3, none⟩ (.int .i64 0)).heap.size = w3.heap.size) := hs4
            have hsol := solid_of ⟨tk, tt, tn, ta⟩ (by rw [← hwr]; exact hrd) hot2 hot3 hl256
            have HT2 : Hid ((tx ++ (SB ++ sb)).data.toList = backT sb.data.toList (us ++ [⟨tk, tt, tn, ta⟩])) := by
              show _ = _
              rw [backT_app, ← HT.out, ← hSB, ← hwr]
              simp
            have HU2 : Hid (AllS (us ++ [⟨tk, tt, tn, ta⟩])) := by
              intro x hx
              rcases List.mem_append.1 hx with hx | hx
              · exact HU.out x hx
              · rw [List.mem_singleton.1 hx]; exact hsol
            have HN : Hid (w2.heap.size ≤ w3.heap.size) := by show _ ≤ _; have := hbw.size; omega
            clear hrd hwr hl256 hSB hsz hsol own4 hbw4 hs4 HT HU q4 own3 hbw3 hb3' hown hbw HW HA HOK HG hot1 hot2 hot3 q3
            go_wp2_with (at_builtin; refine wpList_append_own _ rfl _ _ 22 rfl w2.heap.size 27 i0 (.agg #[.int .u8 0, .string ⟨#[]⟩, .int .i64 0, .int .i64 0]) 4 40 Tryd.underlying22 hi hz0 hz1 hz2 rfl (by decide) _ us.length _ rfl (OW4.out.alloc _) ⟨_, 0, none⟩ 1 1 [.int .u8 tk, .string ⟨tt.toArray⟩, .int .i64 tn, .int .i64 0] rfl rfl (cell_four_at _ _ _ _ _ _ _ (by simp)) (fun x hx => by simp at hx; rcases hx with rfl | rfl | rfl | rfl <;> rfl) (by unfold maxLen; omega) (by omega) (by have := HN.out; have := HS4.out; simp; omega) ?_; intro v' w5 hown' hgrow hnil)
            go_roundg g'
            case measure => omega
            case rel =>
              refine ⟨i + 1, us ++ [⟨tk, tt, tn, ta⟩], tx ++ (SB ++ sb), rfl, by go_num, by omega, ?_, ?_, ?_, ?_, HT2, HU2, by omega⟩
              · rw [List.length_append, zero_flat]
                exact hown'
              · exact Below.grown (HBW4.out.alloc (by have := HN.out; have := HS4.out; omega) _) hgrow (by have := HN.out; have := HS4.out; simp; omega) (fun j hj => (OW4.out.lt _ hj).1)
              · rw [ByteArray.size_append, ByteArray.size_append]; omega
              · rw [List.length_append, ByteArray.size_append, ByteArray.size_append]
                simp
                omega
      · have hlt' : ¬ (i : Int) < (ts.length : Int) := by omega
        obtain ⟨sl, hsl⟩ := HSEP.out
        have hR := lexP_back _ sl hsl us HU.out (by rw [← HT.out, ← Lib.size_eq]; exact htx)
        rw [← HT.out] at hR
        obtain ⟨R, hR1, hR2⟩ := hR
        have hRl : R.length = us.length := by
          have := congrArg List.length hR2
          simpa using this
        have CL : Hid (Calls Tryd.prog 6 #[.string tx] wr fun e w' => ∃ v, e = .returned (.tuple #[v, .int .i64 0, .int .i64 0]) ∧ LexOut wr w' v R ∧ Below wr.heap.size wr w') := by
          have := lex_any tx wr (by omega) (HG.out.below HW.out).1
          rw [hR1] at this
          exact this
        have HR2 : Hid (R.map zeroA = us.map zeroA) := hR2
        have HRL : Hid (R.length = us.length) := hRl
        have OWN : Hid (wr.ownsRow w2.heap.size 27 4 _ us.length (flatK (us.map zeroA))) := hown
        clear hR1 hR2 hRl hsl HT HU HSEP HG HA HOK hown
        go_wp2_with fail
        refine CL.out.mono ?_
        rintro e w4 ⟨v, rfl, ho, hb4⟩
        obtain ⟨pr, cr, rfl⟩ := own_slice ho
        have HO : Hid (w4.ownsRow wr.heap.size 27 4 (.slice pr R.length cr) R.length (flatK R)) := ho
        have HB4 : Hid (Below wr.heap.size wr w4) := hb4
        clear ho hb4 CL
        obtain ⟨V0, hV0⟩ : ∃ V0 : World, V0 = wr := ⟨_, rfl⟩
        subst hV0
        have hRn : R.length ≤ 9223372036854775807 := by have := HRL.out; omega
        go_wp2_with fail
        go_loopg [66] R.length (fun gf s66 wx => ∃ j : Nat, s66 = .int .i64 j ∧ j ≤ R.length ∧ Hid (wx.ownsRow V0.heap.size 27 4 (.slice pr R.length cr) R.length (flatK (mz j R))) ∧ Below V0.heap.size V0 wx ∧ R.length ≤ j + gf)
        case atStart => exact ⟨0, rfl, by omega, HO, HB4.out, by omega⟩
        case round =>
          obtain ⟨j, rfl, hjl, HOj, hbj, hgj⟩ := hrel
          clear HO HB4
          by_cases hj : j < R.length
          · obtain ⟨e', rfl⟩ : ∃ g', gk = g' + 1 := ⟨gk - 1, by omega⟩
            obtain ⟨g, rfl⟩ : ∃ g, pr = some ⟨g, 0, none⟩ := by
              obtain ⟨_, ⟨_, h2⟩ | ⟨g, cap, cur, h2, _⟩⟩ := HOj.out
              · omega
              · simp only [Value.slice.injEq, true_and] at h2
                exact ⟨g, h2.1⟩
            have hos := own_set (i := j * 4 + 3) HOj.out (.int .i64 0)
            rw [mz_set j R hj] at hos
            have f3 : wr.frozen? ⟨g, j * 4 + 3, none⟩ = false := hos.2.1
            have hfl : j * 4 + 3 < (flatK (mz j R)).length := by rw [flatK_length, mz_len]; omega
            have x3 : wr.cell? ⟨g, j * 4 + 3, none⟩ = some ((flatK (mz j R))[j * 4 + 3]) := by
              rw [World.ownsRow.cellAt HOj.out (j * 4 + 3) (by omega)]
              exact List.getElem?_eq_getElem hfl
            generalize (flatK (mz j R))[j * 4 + 3] = X3 at x3
            have HS : Hid ((wr.setCell ⟨g, j * 4 + 3, none⟩ (.int .i64 0)).ownsRow V0.heap.size 27 4 (.slice (some ⟨g, 0, none⟩) R.length cr) R.length (flatK (mz (j + 1) R)) ∧ Below V0.heap.size V0 (wr.setCell ⟨g, j * 4 + 3, none⟩ (.int .i64 0))) := ⟨hos.1, hbj.setCell hos.2.2.1 _⟩
            have y0 : (j : Int) < (R.length : Int) := by omega
            have y1 : (0 : Int) ≤ (j : Int) := by omega
            clear hos HOj hfl
            go_wp2_with fail
            go_roundg e'
            case measure => omega
            case rel => exact ⟨j + 1, by go_num, by omega, HS.out.1, HS.out.2, by omega⟩
          · have hj' : ¬ (j : Int) < (R.length : Int) := by omega
            obtain rfl : j = R.length := by omega
            have CS : Hid (Calls Tryd.prog 7 #[.slice pr R.length cr, u7] wr fun e w' => e = .returned (.bool true) ∧ Below wr.heap.size wr w') := by
              refine same_any wr _ _ (R.map zeroA) (tokAt_own (base := V0.heap.size) ?_) (tokAt_own (base := w2.heap.size) (owns_later (w := V0) ?_ hbj)) (by rw [List.length_map]; exact hRn)
              · have ho := HOj.out
                rw [mz_end] at ho
                rw [List.length_map]
                exact ho
              · rw [HR2.out, List.length_map]
                exact OWN.out
            have HF : Hid (Below w.heap.size w wr) := HW.out.trans (hbj.mono HW.out.size)
            clear HOj HR2 HRL OWN hbj HW
            go_wp2_with fail
            refine CS.out.mono ?_
            rintro e w5 ⟨rfl, hb5⟩
            have HF5 : Hid (Below w.heap.size w w5) := HF.out.trans (hb5.mono HF.out.size)
            clear hb5 CS
            go_wp2
            go_ret
            exact ⟨rfl, HF5.out⟩
end Go.Proofs.YtlgdddjdmohaoaaDoor
