/- Claims: what Pick's closure, and IndexFunc with it, answer; a list of numbers that is cloned. -/
import Derived.Test.YthfoijnjgdeaaaaDoorCe
import Derived.Lib.LazyBuf
import Derived.Lib.SliceRun
namespace Go.Proofs.YthfoijnjgdeaaaaDoor
open Go.Shelf Go.RowKit Go.Lib Go.Sort
set_option linter.unusedVariables false
set_option linter.unusedSimpArgs false
attribute [local go_sem ↓] Go.wp_at_zero Go.wp_at_succ
/-- The box of those that are alive. -/
def BoxA (W : World) (ba : Nat) (al : List Bool) : Prop := ∃ p c, ba < W.heap.size ∧ W.cell? ⟨ba, 0, none⟩ = some (.slice p al.length c) ∧ BoolsL W (.slice p al.length c) al
theorem BoxA.below {W W' : World} {ba : Nat} {al : List Bool} (h : BoxA W ba al) (hb : Below W.heap.size W W') : BoxA W' ba al := by
  obtain ⟨p, c, h0, h1, h2⟩ := h
  exact ⟨p, c, Nat.lt_of_lt_of_le h0 hb.size, by rw [hb.cell (p := ⟨ba, _, none⟩) h0]; exact h1, h2.below hb⟩
set_option maxRecDepth 100000 in
set_option maxHeartbeats 2000000 in
theorem isDead_any (ba : Nat) (al : List Bool) (y : Nat) (w : World) (hx : BoxA w ba al) :
    Calls Tryd.prog 34 #[.int .i64 (y : Int), .pointer (some ⟨ba, 0, none⟩)] w fun e w' => e = .returned (.bool (!aliveB al (y : Int))) ∧ w' = w := by
  obtain ⟨p, c, h0, h1, h2⟩ := hx
  obtain ⟨p', c', ev, hl, hp⟩ := h2
  simp only [Value.slice.injEq] at ev
  obtain ⟨rfl, _, rfl⟩ := ev
  have hzy : (0 : Int) ≤ (y : Int) := by omega
  by_cases hy : y < al.length
  · obtain ⟨b2, o2, rfl, hB2, hc2⟩ := hp (by omega)
    have x1 := hc2 y hy
    have ea : aliveB al (y : Int) = al[y] := by unfold aliveB; simp [List.getD, hy]
    rw [ea]
    obtain ⟨T, hT⟩ : ∃ T, al[y] = T := ⟨_, rfl⟩
    rw [hT] at x1 ⊢
    have hy1 : (y : Int) < (al.length : Int) := by omega
    have hy2 : ¬ (al.length : Int) ≤ (y : Int) := by omega
    clear hc2 ea hp hT
    go_enter Tryd.func34, Tryd.ntmps34
    go_wp2_with fail
    go_ret
    exact ⟨rfl, rfl⟩
  · have hy1 : (al.length : Int) ≤ (y : Int) := by omega
    have ea : aliveB al (y : Int) = false := by unfold aliveB; simp [List.getD, List.getElem?_eq_none (Nat.le_of_not_lt hy)]
    rw [ea]
    clear hp ea
    go_enter Tryd.func34, Tryd.ntmps34
    go_wp2_with fail
    go_ret
    exact ⟨rfl, rfl⟩
set_option maxRecDepth 100000 in
set_option maxHeartbeats 2000000 in
/-- The first one that is dead, or none. -/
theorem deadIdx_any (ba : Nat) (al : List Bool) (v : Value) (zs : List Int) (w : World) (hx : BoxA w ba al) (hz : IntsL w v zs) (hn : ∀ z ∈ zs, 0 ≤ z) :
    Calls Tryd.prog 55 #[v, .func (.func 34) #[] #[.pointer (some ⟨ba, 0, none⟩)]] w fun e w' => w' = w ∧ ((e = .returned (.int .i64 (-1)) ∧ liveL al zs = zs) ∨ ∃ k : Nat, k < zs.length ∧ e = .returned (.int .i64 k) ∧ liveL al (zs.take (k + 1)) = zs.take k ∧ (zs.take k).length = k) := by
  obtain ⟨p, c, rfl, hl, hp⟩ := hz
  have HP : Hid (0 < zs.length → ∃ b o, p = some ⟨b, o, none⟩ ∧ b < w.heap.size ∧ ∀ j (h : j < zs.length), w.cell? ⟨b, o + j, none⟩ = some (.int .i64 zs[j])) := hp
  have HX : Hid (BoxA w ba al) := hx
  have HN : Hid (∀ z ∈ zs, 0 ≤ z) := hn
  clear hp hx hn
  go_enter Tryd.func55, Tryd.ntmps55
  go_wp2_with fail
  go_loopg [8] zs.length (fun gf s8 wx => ∃ i : Nat, s8 = .int .i64 i ∧ i ≤ zs.length ∧ zs.length ≤ i + gf ∧ wx = w ∧ Hid (liveL al (zs.take i) = zs.take i))
  case atStart => exact ⟨0, rfl, by omega, by omega, rfl, (show _ = _ from rfl)⟩
  case round =>
    obtain ⟨i, rfl, hi1, hgf, hwx, HT⟩ := hrel
    subst hwx
    by_cases hi : i < zs.length
    · obtain ⟨g', rfl⟩ : ∃ g', gk = g' + 1 := ⟨gk - 1, by omega⟩
      obtain ⟨b, o, rfl, hB, hc⟩ := HP.out (by omega)
      have c0 := hc i hi
      have hzn := HN.out _ (List.getElem_mem hi)
      have hst := liveL_step al zs i hi
      have htk : zs.take (i + 1) = zs.take i ++ [zs[i]] := List.take_succ_eq_append_getElem hi
      obtain ⟨z, hz⟩ : ∃ z, zs[i] = z := ⟨_, rfl⟩
      rw [hz] at c0 hzn hst htk
      obtain ⟨y, rfl⟩ : ∃ y : Nat, z = (y : Int) := ⟨z.toNat, by omega⟩
      have C1 : Hid (Calls Tryd.prog 34 #[.int .i64 (y : Int), .pointer (some ⟨ba, 0, none⟩)] wr fun e w' => e = .returned (.bool (!aliveB al (y : Int))) ∧ w' = wr) := isDead_any ba al y wr HX.out
      have hz0 : (0 : Int) ≤ (i : Int) := by omega
      have hz1 : (i : Int) < (zs.length : Int) := by omega
      clear hc hz hzn
      cases ha : aliveB al (y : Int)
      · rw [ha] at hst C1
        have HF : Hid (liveL al (zs.take (i + 1)) = zs.take i) := by show _ = _; rw [hst]; exact HT.out
        have HL : Hid ((zs.take i).length = i) := by show _ = _; rw [List.length_take]; omega
        clear hst ha HT htk
        go_wp2_with fail
        refine C1.out.mono ?_
        rintro e w2 ⟨rfl, rfl⟩
        clear C1
        go_wp2_with fail
        go_ret
        exact ⟨rfl, .inr ⟨i, hi, rfl, HF.out, HL.out⟩⟩
      · rw [ha] at hst C1
        have HT2 : Hid (liveL al (zs.take (i + 1)) = zs.take (i + 1)) := by show _ = _; rw [hst, htk, if_pos rfl, HT.out]
        clear hst ha HT htk
        go_wp2_with fail
        refine C1.out.mono ?_
        rintro e w2 ⟨rfl, rfl⟩
        clear C1
        go_wp2_with fail
        go_roundg g'
        case measure => omega
        case rel => exact ⟨i + 1, by go_num, by omega, by omega, rfl, HT2⟩
    · have hend : i = zs.length := by omega
      have hz1 : ¬ (i : Int) < (zs.length : Int) := by omega
      have HF : Hid (liveL al zs = zs) := by have := HT.out; rwa [hend, List.take_length] at this
      clear HT hend
      go_wp2_with fail
      go_ret
      exact ⟨rfl, .inl ⟨rfl, HF.out⟩⟩
set_option maxRecDepth 100000 in
set_option maxHeartbeats 2000000 in
theorem cloneInts_any (v : Value) (zs : List Int) (w : World) (hz : IntsL w v zs) (h0 : 0 < zs.length) (h8 : zs.length * 8 ≤ 140737488355328) :
    Calls Tryd.prog 36 #[v] w fun e w' => ∃ u, e = .returned u ∧ OwnI w u zs w' := by
  obtain ⟨p, c, rfl, hl, hp⟩ := hz
  obtain ⟨b, o, rfl, hB, hc⟩ := hp h0
  obtain ⟨i0, hi0, hz0', hz1', hz2'⟩ := info3
  have hown : (w.alloc (.cells #[] 3)).ownsRow w.heap.size 3 1 (.slice (some ⟨w.heap.size, 0, none⟩) 0 0) 0 [] := ⟨rfl, .inr ⟨w.heap.size, 0, #[], rfl, Nat.le_refl _, heap_alloc_new w _, Nat.le_refl _, Nat.zero_le _, rfl, rfl⟩⟩
  have HC : Hid (∀ j u, (zs.map fun z => Value.int .i64 z)[j]? = some u → (w.alloc (.cells #[] 3)).cell? ((⟨b, o, none⟩ : Addr).add j) = some u) := fun j u hu => by
    rw [Go.WideShapes.add_plain, World.cell?_of_block (w := w) (heap_alloc_old w _ hB)]
    rw [List.getElem?_map] at hu
    by_cases hj : j < zs.length
    · rw [List.getElem?_eq_getElem hj] at hu
      rw [hc j hj]
      simpa using hu
    · rw [List.getElem?_eq_none (by omega)] at hu; cases hu
  have hq : (binOp .eql 30 (.slice (some ⟨b, o, none⟩) zs.length c) (.slice none 0 0)).run Tryd.prog w = .ok (.bool false) w := Lib.run_eql_slice_nil (h := Tryd.underlying30) ..
  clear hc hp
  go_enter Tryd.func36, Tryd.ntmps36
  go_wp2_with (at_builtin; refine wpList_append_own _ rfl _ _ 30 rfl w.heap.size 3 i0 (.int .i64 0) 1 8 Tryd.underlying30 hi0 hz0' hz1' hz2' rfl (by decide) _ 0 [] rfl hown ⟨b, o, none⟩ zs.length c (zs.map fun z => .int .i64 z) rfl (by simp) HC.out (fun x hx => by simp at hx; obtain ⟨z, _, rfl⟩ := hx; rfl) (by unfold maxLen; omega) (by omega) (by simp) ?_; intro v' w3 hown' hgrow3 hnil3)
  go_ret
  refine ⟨_, rfl, ?_, ?_⟩
  · simpa using hown'
  · exact Below.grown ((Below.refl _ _).alloc (Nat.le_refl _) _) hgrow3 (by simp) (fun j hj => by have := (hown.lt _ hj).1; omega)
end Go.Proofs.YthfoijnjgdeaaaaDoor
