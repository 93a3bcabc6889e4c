/- What the reference's Lex answers: what lex's does. -/
import Derived.Test.YtimnnebmjapneaaDoorGk
namespace Go.Proofs.YtimnnebmjapneaaDoor
open Go.RowKit Go.Lib
set_option linter.unusedVariables false
theorem letL_bad : ∀ (n : Nat) (l : List UInt8), BadIs (letL n l)
  | 0, l, x, h => by simp [letL] at h
  | n + 1, l, x, h => by
    unfold letL at h
    split at h
    · simp at h
    · rcases List.mem_cons.1 h with rfl | h
      · intro hb
        simp only [badL, Bool.and_eq_true, decide_eq_true_eq] at hb
        simp only
        omega
      · exact letL_bad n _ x h
theorem tokAns_drop (ls : List Let) (p : Nat) (hp : p < ls.length) : tokAns ls p = shA p (tokAns (ls.drop p) 0) := by
  have h := tokAns_shift (ls.take p) (ls.drop p) 0 (by rw [List.length_drop]; omega)
  rw [List.take_append_drop, List.length_take, Nat.min_eq_left (by omega)] at h
  exact h
theorem BadIs.drop {ls : List Let} (h : BadIs ls) (p : Nat) : BadIs (ls.drop p) := fun x hx => h x (List.mem_of_mem_drop hx)
theorem cell_four_at (w : World) (a b c d : Value) (t : TypeId) (g : Nat) (hg : g = w.heap.size) : ∀ j u, [a, b, c, d][j]? = some u → (w.alloc (.cells #[a, b, c, d] t)).cell? ((⟨g, 0, none⟩ : Addr).add j) = some u := by
  subst hg
  exact cell_four_new w a b c d t
set_option maxRecDepth 100000 in
set_option maxHeartbeats 4000000 in
theorem lexR_any (s : ByteArray) (w : World) :
    Calls Tryd.prog 5 #[.string s] w fun e w' => ∃ v, e = .returned (.tuple #[v, .int .i64 (lexP s.data.toList).2.1, .int .i64 (lexP s.data.toList).2.2]) ∧ LexOut w w' v (lexP s.data.toList).1 ∧ Below w.heap.size w w' := by
  by_cases hlong : 2048 < s.size
  · have e : lexP s.data.toList = ([], 4, 0) := by
      unfold lexP; rw [if_pos (by rw [← Lib.size_eq]; exact hlong)]
    rw [e]
    have t1 : (2048 : Int) < (s.size : Int) := by omega
    clear e
    go_enter Tryd.func5, Tryd.ntmps5
    go_wp2_with fail
    go_ret3
    exact ⟨_, rfl, World.ownsRow_nil _ _ _ _, Below.refl _ _⟩
  · have t1 : ¬ (2048 : Int) < (s.size : Int) := by omega
    have e : lexP s.data.toList = lexGo (lets s.data.toList) ((lets s.data.toList).length + 1) (skipL false (lets s.data.toList)) [] := by
      unfold lexP; rw [if_neg (by rw [← Lib.size_eq]; exact hlong)]
    rw [e]
    clear e
    have hle := letL_le s.data.toList.length s.data.toList
    rw [← Lib.size_eq] at hle
    have hra := letL_ok s.data.toList.length s.data.toList
    have hbd := letL_bad s.data.toList.length s.data.toList
    have cl := glyphs_any s w (by omega)
    have CL : Hid (Calls Tryd.prog 13 #[.string s] w fun e w' => ∃ v, e = .returned v ∧ GV w' v (lets s.data.toList) ∧ Below w.heap.size w w') := cl
    rw [← show lets s.data.toList = letL s.size s.data.toList by unfold lets; rw [Lib.size_eq]] at hle
    rw [← show lets s.data.toList = letL s.data.toList.length s.data.toList from rfl] at hra hbd
    generalize lets s.data.toList = ls at *
    clear cl
    have HRA : Hid (∀ x ∈ ls, okZ x.1) := hra
    have HBD : Hid (BadIs ls) := hbd
    clear hra hbd
    go_enter Tryd.func5, Tryd.ntmps5
    go_wp2_with fail
    refine CL.out.mono ?_
    rintro e w1 ⟨v, rfl, ⟨p, cap, rfl, hga, hc1, hc2⟩, hb1⟩
    by_cases hnil : ls = []
    · subst hnil
      have C0 : Hid (∀ W, Calls Tryd.prog 14 #[.slice p 0 cap] W fun e w' => e = .returned (.int .i64 0) ∧ w' = W) := fun W => blanks_any p cap [] W (fun h => by simp at h) (by simp) 0 (by show _ = _; rfl)
      simp only [List.length_nil]
      clear hga hc1 HRA HBD
      go_wp2_with fail
      refine (C0.out _).mono ?_
      rintro e w2 ⟨rfl, rfl⟩
      go_wp2_with fail
      refine wp_loop_rounds 1 ?_
      rw [rounds_succ]
      go_wp2_with fail
      go_ret3
      exact ⟨_, rfl, World.ownsRow_nil _ _ _ _, hb1⟩
    · have hn0 : 0 < ls.length := List.length_pos_iff.2 hnil
      have hw1 := hb1.size
      obtain ⟨g, o, rfl, hg, hcl⟩ := hga hn0
      unfold maxLen at hc2
      have CS : Hid (∀ q W, q ≤ ls.length → Below w1.heap.size w1 W → Calls Tryd.prog 14 #[.slice (some ⟨g, o + q * 2, none⟩) (ls.length - q) (cap - q)] W fun e w' => e = .returned (.int .i64 ((skipL false (ls.drop q) : Nat) : Int)) ∧ w' = W) := fun q W hq h => by
        have := blanks_any (some ⟨g, o + q * 2, none⟩) (cap - q) (ls.drop q) W ((hga.below h).drop q) (by rw [List.length_drop]; omega) _ (by show _ = _; rfl)
        rwa [List.length_drop] at this
      have CT : Hid (∀ q W (hq : q < ls.length), isBl ls[q].1 = false → ls[q].1 ≠ 59 → Below w1.heap.size w1 W → Calls Tryd.prog 15 #[.slice (some ⟨g, o + q * 2, none⟩) (ls.length - q) (cap - q)] W fun e w' => e = .returned (tokAns (ls.drop q) 0).v ∧ Below W.heap.size W w') := fun q W hq h1 h2 h => by
        have := nextR_any g (o + q * 2) (cap - q) (ls.drop q) W ((hga.below h).drop q) (by rw [List.length_drop]; omega) (by rw [List.length_drop]; omega) (by unfold maxLen; omega) (fun x hx => HRA.out x (List.mem_of_mem_drop hx)) (HBD.out.drop q) (by rw [List.length_drop]; omega) (by rw [List.getElem_drop]; exact h1) (by rw [List.getElem_drop]; exact h2)
        rwa [List.length_drop] at this
      have HB1 : Hid (Below w.heap.size w w1) := hb1
      clear hga hcl hg hb1 HRA HBD hnil
      have c0 := CS.out 0 w1 (by omega) (Below.refl _ _)
      simp only [Nat.zero_mul, Nat.add_zero, Nat.sub_zero, List.drop_zero] at c0
      have C0 : Hid (Calls Tryd.prog 14 #[.slice (some ⟨g, o, none⟩) ls.length cap] w1 fun e w' => e = .returned (.int .i64 ((skipL false ls : Nat) : Int)) ∧ w' = w1) := c0
      clear c0
      go_wp2_with fail
      refine C0.out.mono ?_
      rintro e w2 ⟨rfl, rfl⟩
      obtain ⟨i0, hi, hz0, hz1, hz2⟩ := info_parts info28
      go_wp2_with fail
      have hsk := skipL_le false ls
      have hat0 := skipL_at ls 0 ls.length (by omega)
      simp only [Nat.zero_add, List.drop_zero] at hat0
      go_loopg [5, 7] (ls.length + 1) (fun gf s5 s7 wx => ∃ (p f : Nat) (acc : List Tok), s7 = .int .i64 p ∧ wx.ownsRow w2.heap.size 24 4 s5 acc.length (flatK acc) ∧ Below w2.heap.size w2 wx ∧ p ≤ ls.length ∧ Hid (∀ h : p < ls.length, isBl ls[p].1 = false ∧ ls[p].1 ≠ 59) ∧ Hid (lexGo ls f p acc = lexGo ls (ls.length + 1) (skipL false ls) []) ∧ ls.length < p + f ∧ acc.length ≤ p ∧ ls.length < p + gf)
      case atStart => exact ⟨_, ls.length + 1, [], rfl, World.ownsRow_nil _ _ _ _, Below.refl _ _, hsk, hat0, (by show _ = _; rfl), by omega, by simp, by omega⟩
      case round =>
        obtain ⟨p, f, acc, rfl, hown, hbw, hp, HN, HS, hf, hal, hgf⟩ := hrel
        have hwr := hbw.size
        by_cases hlt : p < ls.length
        · obtain ⟨g', rfl⟩ : ∃ g', gk = g' + 1 := ⟨gk - 1, by omega⟩
          obtain ⟨f', rfl⟩ : ∃ f', f = f' + 1 := ⟨f - 1, by omega⟩
          have y0 : (p : Int) < (ls.length : Int) := by omega
          have y1 : (0 : Int) ≤ (p : Int) := by omega
          have y2 : (p : Int) ≤ (ls.length : Int) := by omega
          have y3 : (p : Int) ≤ (cap : Int) := by omega
          have hN := HN.out hlt
          have ct := CT.out p wr hlt hN.1 hN.2 hbw
          have hS := HS.out
          rw [lexGo_step ls f' p acc hlt, tokAns_drop ls p hlt] at hS
          have hfin := tokAns_fin (ls.drop p) 0 (by rw [List.length_drop]; omega) (by rw [List.getElem_drop]; exact hN.1) (by rw [List.getElem_drop]; exact hN.2)
          have hta := tokAns_a (ls.drop p) 0 (by rw [List.length_drop]; omega)
          rw [List.length_drop] at hfin
          obtain ⟨⟨⟨tk, tt, tn, ta⟩, fn, er⟩, hT⟩ : ∃ T, tokAns (ls.drop p) 0 = T := ⟨_, rfl⟩
          rw [hT] at ct hS hfin hta
          simp only at hfin hta
          have C1 : Hid (Calls Tryd.prog 15 #[.slice (some ⟨g, o + p * 2, none⟩) (ls.length - p) (cap - p)] wr fun e w' => e = .returned (.tuple #[.agg #[.int .u8 tk, .string ⟨tt.toArray⟩, .int .i64 tn, .int .i64 ta], .int .i64 fn, .int .i64 er]) ∧ Below wr.heap.size wr w') := ct
          clear ct hT HN HS
          by_cases h0 : er = 0
          · subst h0
            obtain ⟨e, rfl, he1, he2⟩ := hfin rfl
            obtain rfl : ta = 0 := hta rfl
            have e1 : shA p ⟨⟨tk, tt, tn, 0⟩, (e : Int), 0⟩ = ⟨⟨tk, tt, tn, (p : Int)⟩, ((p + e : Nat) : Int), 0⟩ := by
              simp only [shA, shT, if_true]
              congr 1
              · simp
              · omega
            rw [e1] at hS
            simp only [if_true, Int.toNat_natCast] at hS
            have C2 : Hid (∀ W, Below w2.heap.size w2 W → Calls Tryd.prog 14 #[.slice (some ⟨g, o + (p + e) * 2, none⟩) (ls.length - (p + e)) (cap - (p + e))] W fun e' w' => e' = .returned (.int .i64 ((skipL false (ls.drop (p + e)) : Nat) : Int)) ∧ w' = W) := fun W h => CS.out (p + e) W (by omega) h
            have hsk2 := skipL_le false (ls.drop (p + e))
            rw [List.length_drop] at hsk2
            have hn2 : ∀ h : p + e + skipL false (ls.drop (p + e)) < ls.length, isBl ls[p + e + skipL false (ls.drop (p + e))].1 = false ∧ ls[p + e + skipL false (ls.drop (p + e))].1 ≠ 59 := fun h => skipL_at ls (p + e) ls.length (by omega) h
            obtain ⟨K, hK⟩ : ∃ K, skipL false (ls.drop (p + e)) = K := ⟨_, rfl⟩
            simp only [hK] at hn2
            rw [hK] at hsk2 C2 hS
            have HN2 : Hid (∀ h : p + e + K < ls.length, isBl ls[p + e + K].1 = false ∧ ls[p + e + K].1 ≠ 59) := hn2
            have HS2 : Hid (lexGo ls f' (p + e + K) (acc ++ [⟨tk, tt, tn, (p : Int)⟩]) = lexGo ls (ls.length + 1) (skipL false ls) []) := hS
            have y4 : (p : Int) + (e : Int) ≤ (ls.length : Int) := by omega
            have y5 : (p : Int) + (e : Int) ≤ (cap : Int) := by omega
            have HK : Hid (skipL false (ls.drop (p + e)) = K) := hK
            clear hS hfin hta e1 hK hn2
            go_wp2_with fail
            refine C1.out.mono ?_
            rintro e' w3 ⟨rfl, hb3⟩
            have hown3 := own_below hown hb3
            have HB3 : Hid (Below w2.heap.size w2 w3) := hbw.trans (hb3.mono hwr)
            have hs3 : w2.heap.size ≤ w3.heap.size := HB3.out.size
            clear hown hb3 hbw C1
            by_cases hpc : cap = p + e
            · subst hpc
              have hd0 : (ls.drop (p + e)).length = 0 := by rw [List.length_drop]; omega
              obtain rfl : 0 = K := by have := HK.out; rw [List.eq_nil_of_length_eq_zero hd0] at this; exact this
              have C3 : Hid (∀ W, Calls Tryd.prog 14 #[.slice (some ⟨g, o, none⟩) 0 0] W fun e w' => e = .returned (.int .i64 0) ∧ w' = W) := fun W => blanks_any _ 0 [] W (fun h => by simp at h) (by simp) 0 (by show _ = _; rfl)
              clear hd0 C2 CS CT HK
              go_wp2_with (first
                | (at_builtin; refine wpList_append_own _ rfl _ _ 25 rfl w2.heap.size 24 i0 (.agg #[.int .u8 0, .string ⟨#[]⟩, .int .i64 0, .int .i64 0]) 4 40 Tryd.underlying25 hi hz0 hz1 hz2 rfl (by decide) _ _ _ rfl (own_below hown3 (by (repeat (first | exact Below.refl _ _ | refine Below.alloc ?_ (by simp) _ | refine Below.setCell ?_ (by simp) _)))) ⟨w3.heap.size + 1, 0, none⟩ 1 1 [.int .u8 tk, .string ⟨tt.toArray⟩, .int .i64 tn, .int .i64 p] rfl rfl (cell_four_at _ _ _ _ _ _ _ (by simp)) (fun x hx => by simp at hx; rcases hx with rfl | rfl | rfl | rfl <;> rfl) (by unfold maxLen; omega) (by omega) (by simp; omega) ?_; intro v' w4 hown' hgrow4 hnil4)
                | fail)
              have hbw4 : Below w2.heap.size w2 w4 := Below.grown (HB3.out.trans (by (repeat (first | exact Below.refl _ _ | refine Below.alloc ?_ (by first | omega | (simp; omega)) _ | refine Below.setCell ?_ (by first | omega | (simp; omega)) _)))) hgrow4 (by simp; omega) (fun j hj => (hown3.lt _ hj).1)
              refine (C3.out w4).mono ?_
              rintro e'' w5 ⟨rfl, rfl⟩
              go_wp2_with fail
              go_roundg (g' - (e + 0 - 1))
              case measure => omega
              case rel => exact ⟨p + e + 0, f', acc ++ [⟨tk, tt, tn, p⟩], by go_num, by rw [List.length_append, flatK_app]; exact hown', hbw4, by omega, HN2, HS2, by omega, by rw [List.length_append]; simp; omega, by omega⟩
            · clear CS CT HK
              go_wp2_with (first
                | (at_builtin; refine wpList_append_own _ rfl _ _ 25 rfl w2.heap.size 24 i0 (.agg #[.int .u8 0, .string ⟨#[]⟩, .int .i64 0, .int .i64 0]) 4 40 Tryd.underlying25 hi hz0 hz1 hz2 rfl (by decide) _ _ _ rfl (own_below hown3 (by (repeat (first | exact Below.refl _ _ | refine Below.alloc ?_ (by simp) _ | refine Below.setCell ?_ (by simp) _)))) ⟨w3.heap.size + 1, 0, none⟩ 1 1 [.int .u8 tk, .string ⟨tt.toArray⟩, .int .i64 tn, .int .i64 p] rfl rfl (cell_four_at _ _ _ _ _ _ _ (by simp)) (fun x hx => by simp at hx; rcases hx with rfl | rfl | rfl | rfl <;> rfl) (by unfold maxLen; omega) (by omega) (by simp; omega) ?_; intro v' w4 hown' hgrow4 hnil4)
                | fail)
              have hbw4 : Below w2.heap.size w2 w4 := Below.grown (HB3.out.trans (by (repeat (first | exact Below.refl _ _ | refine Below.alloc ?_ (by first | omega | (simp; omega)) _ | refine Below.setCell ?_ (by first | omega | (simp; omega)) _)))) hgrow4 (by simp; omega) (fun j hj => (hown3.lt _ hj).1)
              refine (C2.out w4 hbw4).mono ?_
              rintro e'' w5 ⟨rfl, rfl⟩
              go_wp2_with fail
              go_roundg (g' - (e + K - 1))
              case measure => omega
              case rel => exact ⟨p + e + K, f', acc ++ [⟨tk, tt, tn, p⟩], by go_num, by rw [List.length_append, flatK_app]; exact hown', hbw4, by omega, HN2, HS2, by omega, by rw [List.length_append]; simp; omega, by omega⟩
          · have hne : (er != 0) = true := bne_iff_ne.2 h0
            have e0 : shA p ⟨⟨tk, tt, tn, ta⟩, fn, er⟩ = ⟨⟨tk, tt, tn, ta⟩, fn, er⟩ := by simp [shA, h0]
            rw [e0] at hS
            simp only [h0, if_false] at hS
            have e1 : (lexGo ls (ls.length + 1) (skipL false ls) []).2.1 = er := by rw [← hS]
            have e2 : (lexGo ls (ls.length + 1) (skipL false ls) []).2.2 = p := by rw [← hS]
            have e3 : (lexGo ls (ls.length + 1) (skipL false ls) []).1 = [] := by rw [← hS]
            clear hS hfin hta e0
            go_wp2_with fail
            refine C1.out.mono ?_
            rintro e' w3 ⟨rfl, hb3⟩
            have HB3 : Hid (Below w.heap.size w w3) := HB1.out.trans ((hbw.trans (hb3.mono hwr)).mono hw1)
            clear hb3
            go_wp2_with fail
            go_ret3
            exact ⟨_, by rw [e1, e2]; rfl, by rw [e3]; exact World.ownsRow_nil _ _ _ _, HB3.out.alloc HB3.out.size _⟩
        · have y0 : ¬ (p : Int) < (ls.length : Int) := by omega
          have hS := HS.out
          rw [lexGo_end ls f p acc hlt] at hS
          have e1 : (lexGo ls (ls.length + 1) (skipL false ls) []).2.1 = 0 := by rw [← hS]
          have e2 : (lexGo ls (ls.length + 1) (skipL false ls) []).2.2 = 0 := by rw [← hS]
          have e3 : (lexGo ls (ls.length + 1) (skipL false ls) []).1 = acc := by rw [← hS]
          clear hS HS HN
          go_wp2_with fail
          go_ret3
          exact ⟨_, rfl, own_mono hown hw1, HB1.out.trans (hbw.mono hw1)⟩
end Go.Proofs.YtimnnebmjapneaaDoor
