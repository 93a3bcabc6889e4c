/- Claims: what DeleteFunc with Pick's closure answers. -/
import Derived.Test.YthfoijnjgdeaaaaDoorCeCf
import Derived.Laws.IdiomCopy
namespace Go.Proofs.YthfoijnjgdeaaaaDoor
open Go.Shelf Go.RowKit Go.Lib Go.Sort
set_option linter.unusedVariables false
set_option linter.unusedSimpArgs false
attribute [local go_sem ↓] Go.wp_at_zero Go.wp_at_succ
/-- Numbers that are being thinned out. -/
def DelJ (w0 : World) (g : Nat) (zs ls : List Int) (j : Nat) (W : World) : Prop :=
  Below w0.heap.size w0 W ∧ ∃ cur : Array Value, W.heap[g]? = some (.cells cur 3 (0, 0)) ∧ zs.length ≤ cur.size ∧ (∀ k (h : k < ls.length), cur[k]? = some (.int .i64 ls[k])) ∧ ∀ k, j ≤ k → ∀ (h : k < zs.length), cur[k]? = some (.int .i64 zs[k])
theorem delJ_step {w0 W : World} {g : Nat} {zs ls : List Int} {j : Nat} (h : DelJ w0 g zs ls j W) (hg0 : w0.heap.size ≤ g) (hl : ls.length < j) (hj : j < zs.length) (z : Int) : DelJ w0 g zs (ls ++ [z]) (j + 1) (W.setCell ⟨g, ls.length, none⟩ (.int .i64 z)) := by
  obtain ⟨hb, cur, hg, hc, h1, h2⟩ := h
  have g2 := heap_setCell_same W g ls.length cur 3 (.int .i64 z) hg
  refine ⟨⟨hb.os, hb.tape, hb.output, by simp [World.setCell]; exact hb.size, fun k hk => ?_⟩, _, g2, by simpa using hc, fun k hk => ?_, fun k hk hk2 => ?_⟩
  · rw [heap_setCell_other _ ⟨g, ls.length, none⟩ k _ (by show k ≠ g; omega)]; exact hb.block k hk
  · by_cases e : k = ls.length
    · subst e; rw [Array.getElem?_setIfInBounds_self_of_lt (by omega)]; simp
    · have hk' : k < ls.length := by simp at hk; omega
      rw [Array.getElem?_setIfInBounds_ne (by omega), List.getElem_append_left hk']; exact h1 k hk'
  · rw [Array.getElem?_setIfInBounds_ne (by omega)]; exact h2 k (by omega) hk2
theorem DelJ.next {w0 W : World} {g : Nat} {zs ls : List Int} {j : Nat} (h : DelJ w0 g zs ls j W) : DelJ w0 g zs ls (j + 1) W := by
  obtain ⟨hb, cur, hg, hc, h1, h2⟩ := h
  exact ⟨hb, cur, hg, hc, h1, fun k hk hk2 => h2 k (by omega) hk2⟩
set_option maxRecDepth 100000 in
set_option maxHeartbeats 2000000 in
theorem delete_any (ba : Nat) (al : List Bool) (g cap : Nat) (zs : List Int) (w0 w : World) (hx : BoxA w0 ba al) (hz : OwnI w0 (.slice (some ⟨g, 0, none⟩) zs.length cap) zs w) (hn : ∀ z ∈ zs, 0 ≤ z) (h8 : zs.length ≤ 7) :
    Calls Tryd.prog 35 #[.slice (some ⟨g, 0, none⟩) zs.length cap, .func (.func 34) #[] #[.pointer (some ⟨ba, 0, none⟩)]] w fun e w' => ∃ m, e = .returned (.slice (some ⟨g, 0, none⟩) m cap) ∧ IntsL w' (.slice (some ⟨g, 0, none⟩) m cap) (liveL al zs) ∧ Below w0.heap.size w0 w' := by
  have HI : Hid (IntsL w (.slice (some ⟨g, 0, none⟩) zs.length cap) zs) := hz.ints (by omega)
  have HBw : Hid (Below w0.heap.size w0 w) := hz.2
  obtain ⟨⟨hl, ⟨e, _⟩ | ⟨g', cap', cur, e, hbg, hg, hnc, hcm, hcs, htake⟩⟩, hb⟩ := hz
  · cases e
  simp only [Value.slice.injEq, Option.some.injEq, Addr.mk.injEq, and_true, true_and] at e
  obtain ⟨rfl, rfl⟩ := e
  have hcur : ∀ k (h : k < zs.length), cur[k]? = some (.int .i64 zs[k]) := fun k hk => by
    have h1 : (zs.map fun z => Value.int .i64 z)[k]? = some (.int .i64 zs[k]) := by simp [hk]
    rw [← htake] at h1
    have := List.getElem?_take (l := cur.toList) (i := zs.length * 1) (j := k)
    rw [h1] at this
    split at this
    · simpa using this.symm
    · cases this
  have HX : Hid (BoxA w0 ba al) := hx
  have HN : Hid (∀ z ∈ zs, 0 ≤ z) := hn
  have C1 : Hid (Calls Tryd.prog 55 #[.slice (some ⟨g, 0, none⟩) zs.length cap, .func (.func 34) #[] #[.pointer (some ⟨ba, 0, none⟩)]] w fun e w' => w' = w ∧ ((e = .returned (.int .i64 (-1)) ∧ liveL al zs = zs) ∨ ∃ k : Nat, k < zs.length ∧ e = .returned (.int .i64 k) ∧ liveL al (zs.take (k + 1)) = zs.take k ∧ (zs.take k).length = k)) := deadIdx_any ba al _ zs w (hx.below hb) HI.out hn
  have hcz : zs.length ≤ cur.size := by omega
  have HJ0 : Hid (∀ k, k < zs.length → DelJ w0 g zs (zs.take k) (k + 1) w) := fun k hk => ⟨hb, cur, hg, hcz, fun m hm => by
    have hm' : m < zs.length := by rw [List.length_take] at hm; omega
    rw [List.getElem_take]; exact hcur m hm', fun m _ hm => hcur m hm⟩
  obtain ⟨i0, hi0, hz0', hz1', hz2'⟩ := info3
  have hv3 : ∀ w, (zeroValue 3).run Tryd.prog w = .ok (.int .i64 0) w := fun w => by simp [zeroValue, typeInfo, hi0, hz0']
  clear hcur htake hx hn hl hg hcz
  go_enter Tryd.func35, Tryd.ntmps35
  go_wp2_with fail
  refine C1.out.mono ?_
  rintro e w1 ⟨hw1, ⟨rfl, hl1⟩ | ⟨k, hk, rfl, hl1, hl2⟩⟩
  · subst hw1
    have HF : Hid (liveL al zs = zs) := hl1
    clear hl1 C1
    go_wp2_with fail
    go_ret
    exact ⟨_, rfl, by rw [HF.out]; exact HI.out, HBw.out⟩
  · subst hw1
    have HJ : Hid (DelJ w0 g zs (liveL al (zs.take (k + 1))) (k + 1) w1) := by rw [hl1]; exact HJ0.out k hk
    have HLk : Hid ((liveL al (zs.take (k + 1))).length = k) := by show _ = _; rw [hl1]; exact hl2
    have hk1 : ((k : Int) == -1) = false := beq_eq_false_iff_ne.2 (by omega)
    clear hl1 hl2 C1 HJ0
    go_wp2_with fail
    go_loopg [5, 6] zs.length (fun gf s5 s6 wx => ∃ i j : Nat, s5 = .int .i64 i ∧ s6 = .int .i64 j ∧ i < j ∧ j ≤ zs.length ∧ zs.length ≤ j + gf ∧ Hid ((liveL al (zs.take j)).length = i) ∧ Hid (DelJ w0 g zs (liveL al (zs.take j)) j wx))
    case atStart => exact ⟨k, k + 1, rfl, by go_num, by omega, by omega, by omega, HLk, HJ⟩
    case round =>
      clear HJ HLk
      obtain ⟨i, j, rfl, rfl, hij, hj1, hgf, HLi, HJ⟩ := hrel
      have hz0 : (0 : Int) ≤ (j : Int) := by omega
      have hz2 : (0 : Int) ≤ (i : Int) := by omega
      have hz3 : (i : Int) < (zs.length : Int) := by omega
      have hBx : BoxA wr ba al := HX.out.below HJ.out.1
      by_cases hj : j < zs.length
      · obtain ⟨g', rfl⟩ : ∃ g', gk = g' + 1 := ⟨gk - 1, by omega⟩
        have hzn := HN.out _ (List.getElem_mem hj)
        have hst := liveL_step al zs j hj
        obtain ⟨c0, ci, cf⟩ : wr.cell? ⟨g, j, none⟩ = some (.int .i64 zs[j]) ∧ (∃ old, wr.cell? ⟨g, i, none⟩ = some old) ∧ wr.frozen? ⟨g, i, none⟩ = false := by
          obtain ⟨_, cur', hg', hc', _, h2'⟩ := HJ.out
          refine ⟨by simp [World.cell?, hg', h2' j (Nat.le_refl _) hj], ⟨cur'[i]'(by omega), by simp [World.cell?, hg', show i < cur'.size by omega]⟩, frozen_zero hg' i⟩
        obtain ⟨old, ci⟩ := ci
        obtain ⟨z, hz⟩ : ∃ z, zs[j] = z := ⟨_, rfl⟩
        rw [hz] at c0 hzn hst
        obtain ⟨y, rfl⟩ : ∃ y : Nat, z = (y : Int) := ⟨z.toNat, by omega⟩
        have C2 : Hid (Calls Tryd.prog 34 #[.int .i64 (y : Int), .pointer (some ⟨ba, 0, none⟩)] wr fun e w' => e = .returned (.bool (!aliveB al (y : Int))) ∧ w' = wr) := isDead_any ba al y wr hBx
        have hz1 : (j : Int) < (zs.length : Int) := by omega
        clear hz hzn hBx
        cases ha : aliveB al (y : Int)
        · rw [ha] at hst C2
          have HL2 : Hid ((liveL al (zs.take (j + 1))).length = i) := by show _ = _; rw [hst]; exact HLi.out
          have HJ2 : Hid (DelJ w0 g zs (liveL al (zs.take (j + 1))) (j + 1) wr) := by rw [hst]; exact HJ.out.next
          clear hst ha HJ HLi
          go_wp2_with fail
          refine C2.out.mono ?_
          rintro e w2 ⟨rfl, rfl⟩
          clear C2
          go_wp2_with fail
          go_roundg g'
          case measure => omega
          case rel => exact ⟨i, j + 1, rfl, by go_num, by omega, by omega, by omega, HL2, HJ2⟩
        · rw [ha] at hst C2
          have hst' : liveL al (zs.take (j + 1)) = liveL al (zs.take j) ++ [(y : Int)] := by rw [hst, if_pos rfl]
          have HL2 : Hid ((liveL al (zs.take (j + 1))).length = i + 1) := by show _ = _; rw [hst', List.length_append, HLi.out]; rfl
          have HJ2 : Hid (DelJ w0 g zs (liveL al (zs.take (j + 1))) (j + 1) (wr.setCell ⟨g, i, none⟩ (.int .i64 (y : Int)))) := by
            rw [hst']
            have := delJ_step HJ.out hbg (by rw [HLi.out]; exact hij) hj (y : Int)
            rwa [HLi.out] at this
          clear hst hst' ha HJ HLi
          go_wp2_with fail
          refine C2.out.mono ?_
          rintro e w2 ⟨rfl, rfl⟩
          clear C2
          go_wp2_with fail
          go_roundg g'
          case measure => omega
          case rel => exact ⟨i + 1, j + 1, by go_num, by go_num, by omega, by omega, by omega, HL2, HJ2⟩
      · have hend : j = zs.length := by omega
        have hz1 : ¬ (j : Int) < (zs.length : Int) := by omega
        obtain ⟨hBj, cur', hg', hc', h1', _⟩ := HJ.out
        have hcl : ∀ ty, (Builtin.clear_ #[30] ty #[.slice (some ⟨g, i, none⟩) (zs.length - i) (cap - i)]).run Tryd.prog wr = .ok (.tuple #[]) (wr.setCells g i (List.replicate (zs.length - i) (.int .i64 0))) :=
          fun ty => Lib.run_clear_slice wr _ _ ty _ Tryd.underlying30 hv3 rfl rfl g i _ _ (by omega) (fun m hm => by simp [World.cell?, hg', show i + m < cur'.size by omega]) (fun m hm => frozen_zero hg' _)
        have HF : Hid (IntsL (wr.setCells g i (List.replicate (zs.length - i) (.int .i64 0))) (.slice (some ⟨g, 0, none⟩) i cap) (liveL al zs)) := by
          have hli : (liveL al zs).length = i := by have := HLi.out; rwa [hend, List.take_length] at this
          refine ⟨_, cap, by rw [hli], by omega, fun _ => ⟨g, 0, rfl, ?_, fun m hm => ?_⟩⟩
          · have hb := below_setCells (B := w0.heap.size) hbg (List.replicate (zs.length - i) (Value.int .i64 0)) i wr hBj
            have hlt : g < wr.heap.size := (Array.getElem?_eq_some_iff.1 hg').1
            have := (below_setCells (B := 0) (a := wr) (Nat.zero_le g) (List.replicate (zs.length - i) (Value.int .i64 0)) i wr (Below.refl 0 wr)).size
            omega
          · rw [Nat.zero_add, World.cell?_setCells_out g _ _ wr ⟨g, m, none⟩ (fun _ _ => .inl (by show m < i; omega))]
            have := h1' m (by rw [hend, List.take_length]; exact hm)
            simp only [World.cell?, hg']
            simp only [hend, List.take_length] at this
            simpa using this
        have HB5 : Hid (Below w0.heap.size w0 (wr.setCells g i (List.replicate (zs.length - i) (.int .i64 0)))) := below_setCells hbg _ _ _ hBj
        clear HJ hBj hg' hc' h1' hend hBx
        go_wp2
        go_ret
        exact ⟨_, rfl, HF.out, HB5.out⟩
end Go.Proofs.YthfoijnjgdeaaaaDoor
/- Claims: what Pick answers. -/
namespace Go.Proofs.YthfoijnjgdeaaaaDoor
open Go.Shelf Go.RowKit Go.Lib Go.Sort
set_option linter.unusedVariables false
set_option linter.unusedSimpArgs false
attribute [local go_sem ↓] Go.wp_at_zero Go.wp_at_succ
theorem three_below (w : World) (o1 o2 o3 : Obj) : Below w.heap.size w (((w.alloc o1).alloc o2).alloc o3) := (two_below w o1 o2).alloc (by simp; omega) _
theorem three_old (w : World) (o1 o2 o3 : Obj) (i j : Nat) (hi : i < w.heap.size + 2) : (((w.alloc o1).alloc o2).alloc o3).cell? ⟨i, j, none⟩ = ((w.alloc o1).alloc o2).cell? ⟨i, j, none⟩ := World.cell?_of_block (heap_alloc_old _ _ (by simp; omega))
theorem three_new (w : World) (o1 o2 : Obj) (v : Value) (t : TypeId) : (((w.alloc o1).alloc o2).alloc (.cells #[v] t)).cell? ⟨w.heap.size + 2, 0, none⟩ = some v := by
  have := cell_box ((w.alloc o1).alloc o2) #[v] t 0 v rfl
  simpa using this
/-- Owners that are being picked. -/
def PickJ (w1 : World) (zs : List Int) (n i : Nat) (wx : World) : Prop :=
  ∃ cur : Array Value, wx.heap[w1.heap.size]? = some (.cells cur 3 (0, 0)) ∧ cur.size = n ∧ Below w1.heap.size w1 wx ∧ ∀ j, j < i → ∀ (h : j < zs.length), cur[j]? = some (.int .i64 zs[j])
theorem PickJ.below {w1 wx wy : World} {zs : List Int} {n i : Nat} (h : PickJ w1 zs n i wx) (hb : Below wx.heap.size wx wy) : PickJ w1 zs n i wy := by
  obtain ⟨cur, hg, hc, hB, h1⟩ := h
  exact ⟨cur, by rw [hb.block _ (Array.getElem?_eq_some_iff.1 hg).1]; exact hg, hc, hB.trans (hb.mono hB.size), h1⟩
theorem pickJ_step {w1 wr : World} {zs : List Int} {n i : Nat} (hJ : PickJ w1 zs n i wr) (hi : i < n) (hz : zs.length = n) (y : Int) (hy : zs[i]? = some y) : PickJ w1 zs n (i + 1) (wr.setCell ⟨w1.heap.size, i, none⟩ (.int .i64 y)) := by
  obtain ⟨cur, hg, hc, hb, hr⟩ := hJ
  have g2 := heap_setCell_same wr w1.heap.size i cur 3 (.int .i64 y) hg
  refine ⟨_, g2, by simpa using hc, ⟨hb.os, hb.tape, hb.output, by simp [World.setCell]; exact hb.size, fun k hk => ?_⟩, fun j hj hjz => ?_⟩
  · rw [heap_setCell_other _ ⟨w1.heap.size, i, none⟩ k _ (by show k ≠ w1.heap.size; omega)]; exact hb.block k hk
  · by_cases e : j = i
    · subst e
      rw [Array.getElem?_setIfInBounds_self_of_lt (by omega)]
      rw [List.getElem?_eq_getElem hjz] at hy
      rw [Option.some.inj hy]
    · rw [Array.getElem?_setIfInBounds_ne (by omega)]; exact hr j (by omega) hjz
theorem PickJ.ints {w1 wr : World} {zs : List Int} {n : Nat} (hJ : PickJ w1 zs n n wr) (hz : zs.length = n) (hn : n ≤ 8) : IntsL wr (.slice (some ⟨w1.heap.size, 0, none⟩) n n) zs := by
  obtain ⟨cur, hg, hc, hb, hr⟩ := hJ
  refine ⟨_, n, by rw [hz], by omega, fun _ => ⟨_, 0, rfl, (Array.getElem?_eq_some_iff.1 hg).1, fun j hj => ?_⟩⟩
  rw [Nat.zero_add]
  simp [World.cell?, hg, hr j (by omega) hj]
theorem claimE_some {N S R : Int} {nm : ByteArray} {cs : List Col} {os : List (List Int)} (h : claimE N S R nm cs os = 0) : ∀ zs ∈ os, 0 < zs.length := by
  unfold claimE at h
  by_cases h0 : layE N S R = 0
  · rw [if_pos h0] at h
    by_cases h1 : tableV nm cs [] = 0
    · rw [if_pos h1] at h
      by_cases h2 : (os.length : Int) = S
      · rw [if_pos h2] at h
        by_cases h3 : allO N os = true
        · intro zs hz
          have := List.all_eq_true.1 h3 zs hz
          rw [areOs, Bool.and_eq_true] at this
          simpa using this.2
        · rw [if_neg h3] at h; cases h
      · rw [if_neg h2] at h; cases h
    · rw [if_neg h1] at h; cases h
  · rw [if_neg h0] at h; cases h
set_option maxRecDepth 100000 in
set_option maxHeartbeats 2000000 in
theorem pick_any (N S R : Int) (nm : ByteArray) (pc : Option Addr) (mc cc : Nat) (cs : List Col) (vb vl : Int) (vo : Value) (os : List (List Int)) (va : Value) (al : List Bool) (w : World) (hs : nm.size ≤ 9223372036854775807) (hTb : Lib.Utf8Tabs 0 1 w) (hc : ColA w (.slice pc mc cc) cs) (ho : OwnsL w vo os) (ha : BoolsL w va al) :
    Calls Tryd.prog 20 #[.agg #[.int .i64 N, .int .i64 S, .int .i64 R], .agg #[.string nm, .slice pc mc cc, .int .u64 vb, .int .u64 vl, vo], va] w fun e w' => ∃ u, e = .returned (.tuple #[u, .int .i64 (pkE N S R nm cs os al)]) ∧ IntsL w' u (zsP N S R nm cs os al) ∧ Below w.heap.size w w' := by
  have C1 : Hid (∀ W, Below w.heap.size w W → Calls Tryd.prog 22 #[.agg #[.int .i64 N, .int .i64 S, .int .i64 R], .agg #[.string nm, .slice pc mc cc, .int .u64 vb, .int .u64 vl, vo]] W fun e w' => e = .returned (.int .i64 (claimE N S R nm cs os)) ∧ Below W.heap.size W w') := fun W h => claim_any N S R nm pc mc cc cs vb vl vo os W hs (Utf8Tabs_below hTb h) (hc.below h) (ho.below h)
  have HAl : Hid (BoolsL w va al) := ha
  obtain ⟨po, co, rfl, hol, hp⟩ := ho
  obtain ⟨pa, ca, rfl, _, _⟩ := ha
  have HP : Hid (0 < os.length → ∃ b o, po = some ⟨b, o, none⟩ ∧ b < w.heap.size ∧ ∀ j (h : j < os.length), ∃ u, w.cell? ⟨b, o + j, none⟩ = some u ∧ IntsL w u os[j]) := hp
  clear hc hp hTb
  by_cases h0 : claimE N S R nm cs os = 0
  · obtain ⟨hlay, hS, hos⟩ := claimE_ok h0
    obtain ⟨k1, k2, k3, k4, k5, k6⟩ := layE_zero.1 hlay
    have hS8 : os.length ≤ 8 := by omega
    have HO : Hid (∀ zs ∈ os, (∀ z ∈ zs, 1 ≤ z ∧ z ≤ N - 1) ∧ zs.length ≤ 7) := hos
    have HO2 : Hid (∀ zs ∈ os, 0 < zs.length) := claimE_some h0
    rw [h0] at C1
    obtain ⟨T, hT⟩ : ∃ T, allLive al os = T := ⟨_, rfl⟩
    have HT : Hid (allLive al (os.drop 0) = T) := hT
    have e1 : pkE N S R nm cs os al = if T = true then 0 else 18 := by unfold pkE; rw [if_pos h0, hT]
    have e2 : zsP N S R nm cs os al = if T = true then pks al os os.length else [] := by
      unfold zsP
      rw [e1]
      cases T
      · simp
      · simp
    rw [e1, e2]
    obtain ⟨A, hA⟩ : ∃ A : Int, (if T = true then (0 : Int) else 18) = A := ⟨_, rfl⟩
    obtain ⟨Z, hZ⟩ : ∃ Z : List Int, (if T = true then pks al os os.length else []) = Z := ⟨_, rfl⟩
    have HA : Hid ((if T = true then (0 : Int) else 18) = A) := hA
    have HZ : Hid ((if T = true then pks al os os.length else []) = Z) := hZ
    rw [hA, hZ]
    subst hS
    obtain ⟨i0, hi0, hz0', hz1', hz2'⟩ := info3
    have hmk : ∀ W : World, ∃ C : Array Value, C.size = os.length ∧ (Instr.makeSlice 30 (.int .i64 (os.length : Int)) (.int .i64 (os.length : Int))).run Tryd.prog W = .ok (.slice (some ⟨W.heap.size, 0, none⟩) os.length os.length) (W.alloc (.cells C 3)) := fun W => by
      have := run_make (P := Tryd.prog) (w := W) 30 3 i0 _ Tryd.underlying30 hi0 hz0' .i64 .i64 (os.length : Int) (os.length : Int) (by omega) (by omega) (by rw [hz2']; omega) (by omega)
      rw [hz1'] at this
      exact ⟨madeCells (Value.int .i64 0).cells (os.length * 1), by rw [size_madeCells]; omega, by simpa using this⟩
    clear hA hZ e1 e2 hT h0 hlay hos hi0 hz0' hz1' hz2'
    go_enter Tryd.func20, Tryd.ntmps20
    go_wp2_with fail
    refine (C1.out _ (three_below w _ _ _)).mono ?_
    rintro e w1 ⟨rfl, hb1⟩
    have z1 : w1.cell? ⟨w.heap.size, 1, none⟩ = some (.int .i64 os.length) := by rw [hb1.cell (p := ⟨w.heap.size, _, none⟩) (by simp; omega), three_old w _ _ _ _ _ (by omega)]; exact two_first w _ _ _ _ _ rfl
    have y4 : w1.cell? ⟨w.heap.size + 1, 4, none⟩ = some (.slice po os.length co) := by rw [hb1.cell (p := ⟨w.heap.size + 1, _, none⟩) (by simp <;> omega), three_old w _ _ _ _ _ (by omega)]; exact two_second w _ _ _ _ _ rfl
    have x0 : w1.cell? ⟨w.heap.size + 2, 0, none⟩ = some (.slice pa al.length ca) := by rw [hb1.cell (p := ⟨w.heap.size + 2, _, none⟩) (by simp)]; exact three_new w _ _ _ _
    have hs1 : w.heap.size + 3 ≤ w1.heap.size := by have := hb1.size; simp at this; omega
    have HB : Hid (Below w.heap.size w w1) := (three_below w _ _ _).trans (hb1.mono (by simp; omega))
    have HX : Hid (BoxA w1 (w.heap.size + 2) al) := ⟨pa, ca, by omega, x0, HAl.out.below HB.out⟩
    obtain ⟨C, hC, hmk1⟩ := hmk w1
    have HJ : Hid (PickJ w1 (pks al os os.length) os.length 0 (w1.alloc (.cells C 3))) := ⟨C, heap_alloc_new w1 _, hC, (Below.refl _ _).alloc (Nat.le_refl _) _, fun j h => by omega⟩
    have Y4 : Hid (∀ W, Below w1.heap.size w1 W → W.cell? ⟨w.heap.size + 1, 4, none⟩ = some (.slice po os.length co)) := fun W h => by rw [h.cell (p := ⟨w.heap.size + 1, _, none⟩) (by show w.heap.size + 1 < _; omega)]; exact y4
    have z1' : (w1.alloc (.cells C 3)).cell? ⟨w.heap.size, 1, none⟩ = some (.int .i64 os.length) := by rw [World.cell?_of_block (w := w1) (heap_alloc_old w1 _ (show w.heap.size < w1.heap.size by omega))]; exact z1
    obtain ⟨W3, hW3⟩ : ∃ W3, w1.alloc (.cells C 3) = W3 := ⟨_, rfl⟩
    rw [hW3] at HJ hmk1 z1'
    clear hb1 hC hW3 hmk x0 y4
    go_wp2_with fail
    go_loopg [25] os.length (fun gf s25 wx => ∃ i : Nat, s25 = .int .i64 i ∧ i ≤ os.length ∧ os.length ≤ i + gf ∧ Hid (PickJ w1 (pks al os os.length) os.length i wx) ∧ Hid (allLive al (os.drop i) = T))
    case atStart => exact ⟨0, rfl, by omega, by omega, HJ, HT⟩
    case round =>
      clear HT HJ hmk1 z1 z1'
      obtain ⟨i, rfl, hi1, hgf, HJ, HT⟩ := hrel
      have hbJ : Below w1.heap.size w1 wr := by obtain ⟨_, _, _, h, _⟩ := HJ.out; exact h
      have hbr : Below w.heap.size w wr := HB.out.trans (hbJ.mono HB.out.size)
      by_cases hi : i < os.length
      · obtain ⟨g', rfl⟩ : ∃ g', gk = g' + 1 := ⟨gk - 1, by omega⟩
        have y4 := Y4.out _ hbJ
        obtain ⟨b, o, rfl, hB, hcc⟩ := HP.out (by omega)
        obtain ⟨u, c0, c1⟩ := hcc i hi
        rw [← hbr.cell (p := ⟨b, _, none⟩) hB] at c0
        have hat := allLive_at al os i hi
        rw [HT.out] at hat
        obtain ⟨hz, hz7⟩ := HO.out os[i] (List.getElem_mem hi)
        have hpos := HO2.out os[i] (List.getElem_mem hi)
        have ei : os.getD i [] = os[i] := by simp [List.getD, hi]
        have HPK : Hid (pk al os i = (liveL al os[i]).getD (i % (liveL al os[i]).length) 0) := by show _ = _; unfold pk; rw [ei]
        have hll : (liveL al os[i]).length ≤ 7 := Nat.le_trans (liveL_len _ _) hz7
        obtain ⟨zs, hzs⟩ : ∃ zs, os[i] = zs := ⟨_, rfl⟩
        rw [hzs] at c1 hat hz hz7 hpos HPK hll
        have CC : Hid (Calls Tryd.prog 36 #[u] wr fun e w' => ∃ u', e = .returned u' ∧ OwnI wr u' zs w') := cloneInts_any u zs wr (c1.below hbr) hpos (by omega)
        have HN : Hid (∀ z ∈ zs, 0 ≤ z) := fun z h => by have := hz z h; omega
        obtain ⟨ls, hls⟩ : ∃ ls, liveL al zs = ls := ⟨_, rfl⟩
        obtain ⟨pu, cu, rfl, _, _⟩ := c1
        have hz0 : (0 : Int) ≤ (i : Int) := by omega
        have hz1 : (i : Int) < (os.length : Int) := by omega
        have HBr : Hid (Below w.heap.size w wr) := hbr
        have HBJ : Hid (Below w1.heap.size w1 wr) := hbJ
        clear hcc hz ei hzs HT hbr hbJ
        go_wp2_with fail
        refine CC.out.mono ?_
        rintro e w2 ⟨u2, rfl, hI2⟩
        obtain ⟨g, cap, rfl⟩ : ∃ g cap, u2 = .slice (some ⟨g, 0, none⟩) zs.length cap := by
          obtain ⟨⟨_, ⟨_, h⟩ | ⟨g, cap, _, h, _⟩⟩, _⟩ := hI2
          · omega
          · exact ⟨g, cap, h⟩
        have CD : Hid (Calls Tryd.prog 35 #[.slice (some ⟨g, 0, none⟩) zs.length cap, .func (.func 34) #[] #[.pointer (some ⟨w.heap.size + 2, 0, none⟩)]] w2 fun e w' => ∃ m, e = .returned (.slice (some ⟨g, 0, none⟩) m cap) ∧ IntsL w' (.slice (some ⟨g, 0, none⟩) m cap) ls ∧ Below wr.heap.size wr w') := by
          rw [← hls]; exact delete_any _ al g cap zs wr w2 (HX.out.below HBJ.out) hI2 HN.out hz7
        rw [hls] at hat HPK hll
        clear hI2 CC hls hpos hz7
        go_wp2_with fail
        refine CD.out.mono ?_
        rintro e w3 ⟨m, rfl, hI3, hb3⟩
        have hmz : m = ls.length := by obtain ⟨_, _, e, _⟩ := hI3; simp only [Value.slice.injEq] at e; exact e.2.1
        subst hmz
        have HI3 : Hid (IntsL w3 (.slice (some ⟨g, 0, none⟩) ls.length cap) ls) := hI3
        have HB3 : Hid (Below wr.heap.size wr w3) := hb3
        have HJ3 : Hid (PickJ w1 (pks al os os.length) os.length i w3) := HJ.out.below hb3
        clear hI3 hb3 CD HJ
        by_cases hl0 : ls.length = 0
        · have hq : ((ls.length : Int) == 0) = true := beq_iff_eq.2 (by omega)
          have HF : Hid (T = false) := by
            show _ = _
            rw [hat, decide_eq_false (by simp [List.eq_nil_of_length_eq_zero hl0]), Bool.false_and]
          have HA2 : Hid (A = 18) := by show _ = _; rw [← HA.out, HF.out]; rfl
          have HZ2 : Hid (Z = []) := by show _ = _; rw [← HZ.out, HF.out]; rfl
          have HB4 : Hid (Below w.heap.size w w3) := HBr.out.trans (HB3.out.mono HBr.out.size)
          clear hat hl0
          go_wp2_with fail
          go_ret2
          exact ⟨_, by rw [HA2.out]; rfl, by rw [HZ2.out]; exact ⟨none, 0, rfl, by simp, fun h => by simp at h⟩, HB4.out⟩
        · have hq : ((ls.length : Int) == 0) = false := beq_eq_false_iff_ne.2 (by omega)
          have HT2 : Hid (allLive al (os.drop (i + 1)) = T) := by
            show _ = _
            rw [hat, decide_eq_true (by intro e; rw [e] at hl0; exact hl0 rfl), Bool.true_and]
          obtain ⟨p2, c2, ev, _, hcell⟩ := HI3.out
          simp only [Value.slice.injEq, true_and] at ev
          obtain ⟨rfl, _⟩ := ev
          obtain ⟨b2, o2, eb, hB2, hc2⟩ := hcell (by omega)
          simp only [Option.some.injEq, Addr.mk.injEq, and_true] at eb
          obtain ⟨rfl, rfl⟩ := eb
          have hmod : i % ls.length < ls.length := Nat.mod_lt _ (by omega)
          have d0 := hc2 _ hmod
          rw [Nat.zero_add] at d0
          have HPK2 : Hid (pk al os i = ls[i % ls.length]) := by show _ = _; rw [HPK.out]; simp [List.getD, hmod]
          obtain ⟨y, hy⟩ : ∃ y, ls[i % ls.length] = y := ⟨_, rfl⟩
          rw [hy] at d0 HPK2
          have q3 : (i : Int).tmod (ls.length : Int) = ((i % ls.length : Nat) : Int) := by rw [Int.tmod_eq_emod_of_nonneg (by omega)]; simp
          obtain ⟨md, hmd⟩ : ∃ md, i % ls.length = md := ⟨_, rfl⟩
          rw [hmd] at d0 q3 hmod
          have q4 : IntKind.i64.wrap (md : Int) = (md : Int) := by rw [IntKind.wrap_i64]; omega
          have q5 : (0 : Int) ≤ (md : Int) := by omega
          have q6 : (md : Int) < (ls.length : Int) := by omega
          have HJ4 : Hid (PickJ w1 (pks al os os.length) os.length (i + 1) (w3.setCell ⟨w1.heap.size, i, none⟩ (.int .i64 y))) := pickJ_step HJ3.out hi (pks_len _ _ _) y (by rw [← HPK2.out]; unfold pks; rw [List.getElem?_map, List.getElem?_range hi]; rfl)
          obtain ⟨old, f0, f1⟩ : ∃ old, w3.cell? ⟨w1.heap.size, i, none⟩ = some old ∧ w3.frozen? ⟨w1.heap.size, i, none⟩ = false := by
            obtain ⟨cur, hg, hcz, _, _⟩ := HJ3.out
            exact ⟨cur[i]'(by omega), by simp [World.cell?, hg, show i < cur.size by omega], frozen_zero hg i⟩
          clear hat hcell hl0 HJ3 hc2 hy hmd
          go_wp2_with fail
          go_roundg g'
          case measure => omega
          case rel => exact ⟨i + 1, by go_num, by omega, by omega, HJ4, HT2⟩
      · have hend : i = os.length := by omega
        have hz1 : ¬ (i : Int) < (os.length : Int) := by omega
        have HF : Hid (T = true) := by show _ = _; rw [← HT.out, hend, List.drop_length]; rfl
        have HA2 : Hid (A = 0) := by show _ = _; rw [← HA.out, HF.out]; rfl
        have HI : Hid (IntsL wr (.slice (some ⟨w1.heap.size, 0, none⟩) os.length os.length) Z) := by
          have e : Z = pks al os os.length := by rw [← HZ.out, HF.out]; rfl
          rw [e]
          have h := HJ.out
          rw [hend] at h
          exact h.ints (pks_len _ _ _) hS8
        have HBr : Hid (Below w.heap.size w wr) := hbr
        clear HT hend HJ hbr hbJ
        go_wp2_with fail
        go_ret2
        exact ⟨_, by rw [HA2.out]; rfl, HI.out, HBr.out⟩
  · have e1 : pkE N S R nm cs os al = claimE N S R nm cs os := by unfold pkE; rw [if_neg h0]
    have e2 : zsP N S R nm cs os al = [] := by unfold zsP; rw [e1, if_neg h0]
    rw [e1, e2]
    obtain ⟨E, hE⟩ : ∃ E, claimE N S R nm cs os = E := ⟨_, rfl⟩
    rw [hE] at C1 h0 ⊢
    have hne : (E != 0) = true := bne_iff_ne.2 h0
    clear e1 e2 hE h0
    go_enter Tryd.func20, Tryd.ntmps20
    go_wp2_with fail
    refine (C1.out _ (three_below w _ _ _)).mono ?_
    rintro e w1 ⟨rfl, hb1⟩
    have HB : Hid (Below w.heap.size w w1) := (three_below w _ _ _).trans (hb1.mono (by simp; omega))
    clear hb1
    go_wp2_with fail
    go_ret2
    exact ⟨_, rfl, ⟨none, 0, rfl, by simp, fun h => by simp at h⟩, HB.out⟩
end Go.Proofs.YthfoijnjgdeaaaaDoor
