/- Claims: what DeleteFunc with Pick's closure answers. -/
import Derived.Test.YthfoijnjgdeaaaaDoorCf
import Derived.Laws.IdiomCopy
namespace Go.Proofs.YthfoijnjgdeaaaaDoor
open Go.Shelf Go.RowKit Go.Lib Go.Sort
set_option linter.unusedVariables false
set_option linter.unusedSimpArgs false
attribute [local go_sem ↓] Go.wp_at_zero Go.wp_at_succ
/-- Numbers that are being thinned out. -/
def DelJ (w0 : World) (g : Nat) (zs ls : List Int) (j : Nat) (W : World) : Prop :=
  Below w0.heap.size w0 W ∧ ∃ cur : Array Value, W.heap[g]? = some (.cells cur 3 (0, 0)) ∧ zs.length ≤ cur.size ∧ (∀ k (h : k < ls.length), cur[k]? = some (.int .i64 ls[k])) ∧ ∀ k, j ≤ k → ∀ (h : k < zs.length), cur[k]? = some (.int .i64 zs[k])
theorem delJ_step {w0 W : World} {g : Nat} {zs ls : List Int} {j : Nat} (h : DelJ w0 g zs ls j W) (hg0 : w0.heap.size ≤ g) (hl : ls.length < j) (hj : j < zs.length) (z : Int) : DelJ w0 g zs (ls ++ [z]) (j + 1) (W.setCell ⟨g, ls.length, none⟩ (.int .i64 z)) := by
  obtain ⟨hb, cur, hg, hc, h1, h2⟩ := h
  have g2 := heap_setCell_same W g ls.length cur 3 (.int .i64 z) hg
  refine ⟨⟨hb.os, hb.tape, hb.output, by simp [World.setCell]; exact hb.size, fun k hk => ?_⟩, _, g2, by simpa using hc, fun k hk => ?_, fun k hk hk2 => ?_⟩
  · rw [heap_setCell_other _ ⟨g, ls.length, none⟩ k _ (by show k ≠ g; omega)]; exact hb.block k hk
  · by_cases e : k = ls.length
    · subst e; rw [Array.getElem?_setIfInBounds_self_of_lt (by omega)]; simp
    · have hk' : k < ls.length := by simp at hk; omega
      rw [Array.getElem?_setIfInBounds_ne (by omega), List.getElem_append_left hk']; exact h1 k hk'
  · rw [Array.getElem?_setIfInBounds_ne (by omega)]; exact h2 k (by omega) hk2
theorem DelJ.next {w0 W : World} {g : Nat} {zs ls : List Int} {j : Nat} (h : DelJ w0 g zs ls j W) : DelJ w0 g zs ls (j + 1) W := by
  obtain ⟨hb, cur, hg, hc, h1, h2⟩ := h
  exact ⟨hb, cur, hg, hc, h1, fun k hk hk2 => h2 k (by omega) hk2⟩
set_option maxRecDepth 100000 in
set_option maxHeartbeats 2000000 in
theorem delete_any (ba : Nat) (al : List Bool) (g cap : Nat) (zs : List Int) (w0 w : World) (hx : BoxA w0 ba al) (hz : OwnI w0 (.slice (some ⟨g, 0, none⟩) zs.length cap) zs w) (hn : ∀ z ∈ zs, 0 ≤ z) (h8 : zs.length ≤ 7) :
    Calls Tryd.prog 35 #[.slice (some ⟨g, 0, none⟩) zs.length cap, .func (.func 34) #[] #[.pointer (some ⟨ba, 0, none⟩)]] w fun e w' => ∃ m, e = .returned (.slice (some ⟨g, 0, none⟩) m cap) ∧ IntsL w' (.slice (some ⟨g, 0, none⟩) m cap) (liveL al zs) ∧ Below w0.heap.size w0 w' := by
  have HI : Hid (IntsL w (.slice (some ⟨g, 0, none⟩) zs.length cap) zs) := hz.ints (by omega)
  have HBw : Hid (Below w0.heap.size w0 w) := hz.2
  obtain ⟨⟨hl, ⟨e, _⟩ | ⟨g', cap', cur, e, hbg, hg, hnc, hcm, hcs, htake⟩⟩, hb⟩ := hz
  · cases e
  simp only [Value.slice.injEq, Option.some.injEq, Addr.mk.injEq, and_true, true_and] at e
  obtain ⟨rfl, rfl⟩ := e
  have hcur : ∀ k (h : k < zs.length), cur[k]? = some (.int .i64 zs[k]) := fun k hk => by
    have h1 : (zs.map fun z => Value.int .i64 z)[k]? = some (.int .i64 zs[k]) := by simp [hk]
    rw [← htake] at h1
    have := List.getElem?_take (l := cur.toList) (i := zs.length * 1) (j := k)
    rw [h1] at this
    split at this
    · simpa using this.symm
    · cases this
  have HX : Hid (BoxA w0 ba al) := hx
  have HN : Hid (∀ z ∈ zs, 0 ≤ z) := hn
  have C1 : Hid (Calls Tryd.prog 55 #[.slice (some ⟨g, 0, none⟩) zs.length cap, .func (.func 34) #[] #[.pointer (some ⟨ba, 0, none⟩)]] w fun e w' => w' = w ∧ ((e = .returned (.int .i64 (-1)) ∧ liveL al zs = zs) ∨ ∃ k : Nat, k < zs.length ∧ e = .returned (.int .i64 k) ∧ liveL al (zs.take (k + 1)) = zs.take k ∧ (zs.take k).length = k)) := deadIdx_any ba al _ zs w (hx.below hb) HI.out hn
  have hcz : zs.length ≤ cur.size := by omega
  have HJ0 : Hid (∀ k, k < zs.length → DelJ w0 g zs (zs.take k) (k + 1) w) := fun k hk => ⟨hb, cur, hg, hcz, fun m hm => by
    have hm' : m < zs.length := by rw [List.length_take] at hm; omega
    rw [List.getElem_take]; exact hcur m hm', fun m _ hm => hcur m hm⟩
  obtain ⟨i0, hi0, hz0', hz1', hz2'⟩ := info3
  have hv3 : ∀ w, (zeroValue 3).run Tryd.prog w = .ok (.int .i64 0) w := fun w => by simp [zeroValue, typeInfo, hi0, hz0']
  clear hcur htake hx hn hl hg hcz
  go_enter Tryd.func35, Tryd.ntmps35
  go_wp2_with fail
  refine C1.out.mono ?_
  rintro e w1 ⟨hw1, ⟨rfl, hl1⟩ | ⟨k, hk, rfl, hl1, hl2⟩⟩
  · subst hw1
    have HF : Hid (liveL al zs = zs) := hl1
    clear hl1 C1
    go_wp2_with fail
    go_ret
    exact ⟨_, rfl, by rw [HF.out]; exact HI.out, HBw.out⟩
  · subst hw1
    have HJ : Hid (DelJ w0 g zs (liveL al (zs.take (k + 1))) (k + 1) w1) := by rw [hl1]; exact HJ0.out k hk
    have HLk : Hid ((liveL al (zs.take (k + 1))).length = k) := by show _ = _; rw [hl1]; exact hl2
    have hk1 : ((k : Int) == -1) = false := beq_eq_false_iff_ne.2 (by omega)
    clear hl1 hl2 C1 HJ0
    go_wp2_with fail
    go_loopg [5, 6] zs.length (fun gf s5 s6 wx => ∃ i j : Nat, s5 = .int .i64 i ∧ s6 = .int .i64 j ∧ i < j ∧ j ≤ zs.length ∧ zs.length ≤ j + gf ∧ Hid ((liveL al (zs.take j)).length = i) ∧ Hid (DelJ w0 g zs (liveL al (zs.take j)) j wx))
    case atStart => exact ⟨k, k + 1, rfl, by go_num, by omega, by omega, by omega, HLk, HJ⟩
    case round =>
      clear HJ HLk
      obtain ⟨i, j, rfl, rfl, hij, hj1, hgf, HLi, HJ⟩ := hrel
      have hz0 : (0 : Int) ≤ (j : Int) := by omega
      have hz2 : (0 : Int) ≤ (i : Int) := by omega
      have hz3 : (i : Int) < (zs.length : Int) := by omega
      have hBx : BoxA wr ba al := HX.out.below HJ.out.1
      by_cases hj : j < zs.length
      · obtain ⟨g', rfl⟩ : ∃ g', gk = g' + 1 := ⟨gk - 1, by omega⟩
        have hzn := HN.out _ (List.getElem_mem hj)
        have hst := liveL_step al zs j hj
        obtain ⟨c0, ci, cf⟩ : wr.cell? ⟨g, j, none⟩ = some (.int .i64 zs[j]) ∧ (∃ old, wr.cell? ⟨g, i, none⟩ = some old) ∧ wr.frozen? ⟨g, i, none⟩ = false := by
          obtain ⟨_, cur', hg', hc', _, h2'⟩ := HJ.out
          refine ⟨by simp [World.cell?, hg', h2' j (Nat.le_refl _) hj], ⟨cur'[i]'(by omega), by simp [World.cell?, hg', show i < cur'.size by omega]⟩, frozen_zero hg' i⟩
        obtain ⟨old, ci⟩ := ci
        obtain ⟨z, hz⟩ : ∃ z, zs[j] = z := ⟨_, rfl⟩
        rw [hz] at c0 hzn hst
        obtain ⟨y, rfl⟩ : ∃ y : Nat, z = (y : Int) := ⟨z.toNat, by omega⟩
        have C2 : Hid (Calls Tryd.prog 34 #[.int .i64 (y : Int), .pointer (some ⟨ba, 0, none⟩)] wr fun e w' => e = .returned (.bool (!aliveB al (y : Int))) ∧ w' = wr) := isDead_any ba al y wr hBx
        have hz1 : (j : Int) < (zs.length : Int) := by omega
        clear hz hzn hBx
        cases ha : aliveB al (y : Int)
        · rw [ha] at hst C2
          have HL2 : Hid ((liveL al (zs.take (j + 1))).length = i) := by show _ = _; rw [hst]; exact HLi.out
          have HJ2 : Hid (DelJ w0 g zs (liveL al (zs.take (j + 1))) (j + 1) wr) := by rw [hst]; exact HJ.out.next
          clear hst ha HJ HLi
          go_wp2_with fail
          refine C2.out.mono ?_
          rintro e w2 ⟨rfl, rfl⟩
          clear C2
          go_wp2_with fail
          go_roundg g'
          case measure => omega
          case rel => exact ⟨i, j + 1, rfl, by go_num, by omega, by omega, by omega, HL2, HJ2⟩
        · rw [ha] at hst C2
          have hst' : liveL al (zs.take (j + 1)) = liveL al (zs.take j) ++ [(y : Int)] := by rw [hst, if_pos rfl]
          have HL2 : Hid ((liveL al (zs.take (j + 1))).length = i + 1) := by show _ = _; rw [hst', List.length_append, HLi.out]; rfl
          have HJ2 : Hid (DelJ w0 g zs (liveL al (zs.take (j + 1))) (j + 1) (wr.setCell ⟨g, i, none⟩ (.int .i64 (y : Int)))) := by
            rw [hst']
            have := delJ_step HJ.out hbg (by rw [HLi.out]; exact hij) hj (y : Int)
            rwa [HLi.out] at this
          clear hst hst' ha HJ HLi
          go_wp2_with fail
          refine C2.out.mono ?_
          rintro e w2 ⟨rfl, rfl⟩
          clear C2
          go_wp2_with fail
          go_roundg g'
          case measure => omega
          case rel => exact ⟨i + 1, j + 1, by go_num, by go_num, by omega, by omega, by omega, HL2, HJ2⟩
      · have hend : j = zs.length := by omega
        have hz1 : ¬ (j : Int) < (zs.length : Int) := by omega
        obtain ⟨hBj, cur', hg', hc', h1', _⟩ := HJ.out
        have hcl : ∀ ty, (Builtin.clear_ #[30] ty #[.slice (some ⟨g, i, none⟩) (zs.length - i) (cap - i)]).run Tryd.prog wr = .ok (.tuple #[]) (wr.setCells g i (List.replicate (zs.length - i) (.int .i64 0))) :=
          fun ty => Lib.run_clear_slice wr _ _ ty _ Tryd.underlying30 hv3 rfl rfl g i _ _ (by omega) (fun m hm => by simp [World.cell?, hg', show i + m < cur'.size by omega]) (fun m hm => frozen_zero hg' _)
        have HF : Hid (IntsL (wr.setCells g i (List.replicate (zs.length - i) (.int .i64 0))) (.slice (some ⟨g, 0, none⟩) i cap) (liveL al zs)) := by
          have hli : (liveL al zs).length = i := by have := HLi.out; rwa [hend, List.take_length] at this
          refine ⟨_, cap, by rw [hli], by omega, fun _ => ⟨g, 0, rfl, ?_, fun m hm => ?_⟩⟩
          · have hb := below_setCells (B := w0.heap.size) hbg (List.replicate (zs.length - i) (Value.int .i64 0)) i wr hBj
            have hlt : g < wr.heap.size := (Array.getElem?_eq_some_iff.1 hg').1
            have := (below_setCells (B := 0) (a := wr) (Nat.zero_le g) (List.replicate (zs.length - i) (Value.int .i64 0)) i wr (Below.refl 0 wr)).size
            omega
          · rw [Nat.zero_add, World.cell?_setCells_out g _ _ wr ⟨g, m, none⟩ (fun _ _ => .inl (by show m < i; omega))]
            have := h1' m (by rw [hend, List.take_length]; exact hm)
            simp only [World.cell?, hg']
            simp only [hend, List.take_length] at this
            simpa using this
        have HB5 : Hid (Below w0.heap.size w0 (wr.setCells g i (List.replicate (zs.length - i) (.int .i64 0)))) := below_setCells hbg _ _ _ hBj
        clear HJ hBj hg' hc' h1' hend hBx
        go_wp2
        go_ret
        exact ⟨_, rfl, HF.out, HB5.out⟩
end Go.Proofs.YthfoijnjgdeaaaaDoor
