/- A change of a right disk; files that are copied with their texts: what do and copyFiles answer. -/
import Derived.Test.YtedjfbkpebmggaaDp
namespace Go.Proofs.Ytedjfbkpebmggaa
open Go.Shelf Go.RowKit Go.Lib Go.Sort
set_option linter.unusedVariables false
set_option linter.unusedSimpArgs false
attribute [local go_sem ↓] Go.wp_at_zero Go.wp_at_succ
/-- What a change refuses, and what it makes of the files. -/
def chgE (fs : List DF) (kk : Int) (nm tt dt : ByteArray) : Int := if kk = 1 then putE fs nm dt else if kk = 2 then synE fs nm else if kk = 3 then movE fs nm tt else synE fs nm
def chgF (fs : List DF) (kk : Int) (nm tt dt : ByteArray) : List DF := if kk = 1 then putF fs nm dt else if kk = 2 then synF fs nm else if kk = 3 then movF fs nm tt else wo nm fs
/-- A disk, and why. -/
structure DR where
  fs : List DF
  dn : Bool
  fu : Int
  e : Int
def doR (fs : List DF) (dn : Bool) (fu kk : Int) (nm tt dt : ByteArray) : DR :=
  if ¬ (1 ≤ kk ∧ kk ≤ 4) then ⟨fs, dn, fu, 5⟩
  else if dn = true then ⟨fs, dn, fu, 12⟩
  else if chgE fs kk nm tt dt ≠ 0 then ⟨fs, dn, fu, chgE fs kk nm tt dt⟩
  else ⟨if fu = 0 ∧ kk ≠ 1 then fs else chgF fs kk nm tt dt, if fu = 0 then true else false, if 0 < fu then fu - 1 else fu, if fu = 0 then 12 else 0⟩
/-- That is answered. -/
def Did (R : DR) (w : World) (e : Ending) (w' : World) : Prop := ∃ p n c, e = .returned (.tuple #[.agg #[.slice p n c, .bool R.dn, .int .i64 R.fu], .int .i64 R.e]) ∧ FsL w' (.slice p n c) R.fs ∧ Below w.heap.size w w'
theorem Did.of {R : DR} {w w' : World} {e : Ending} {u : Value} (h : e = .returned (.tuple #[.agg #[u, .bool R.dn, .int .i64 R.fu], .int .i64 R.e])) (hl : FsL w' u R.fs) (hb : Below w.heap.size w w') : Did R w e w' := by
  obtain ⟨p, c, rfl, r⟩ := hl
  exact ⟨p, _, c, h, ⟨p, c, rfl, r⟩, hb⟩
theorem enters39 : ∀ args w, (callFunc 39 args).run Try.prog w = .ok (.enter 39 args) w := enters_of Try.func39 (by kernel_rfl) rfl
theorem enters40 : ∀ args w, (callFunc 40 args).run Try.prog w = .ok (.enter 40 args) w := enters_of Try.func40 (by kernel_rfl) rfl
theorem enters41 : ∀ args w, (callFunc 41 args).run Try.prog w = .ok (.enter 41 args) w := enters_of Try.func41 (by kernel_rfl) rfl
theorem enters42 : ∀ args w, (callFunc 42 args).run Try.prog w = .ok (.enter 42 args) w := enters_of Try.func42 (by kernel_rfl) rfl
theorem do_known (F : Nat) (v : Value) (dn : Bool) (fu kk : Int) (nm tt dt : ByteArray) (fs : List DF) (w : World) (h : FsL w v fs) (hk : 1 ≤ kk ∧ kk ≤ 4) (hr : -9223372036854775808 ≤ fu ∧ fu ≤ 9223372036854775807)
    (hl : ∀ W r c, W.heap[r]? = some (.map (chMap c) 4) → (Instr.lookup 60 (.map (some r)) (.int .u8 kk) true).run Try.prog W = .ok (.tuple #[.func (.func F) #[c] #[], .bool true]) W)
    (eg : ∀ args w, (callFunc F args).run Try.prog w = .ok (.enter F args) w)
    (hc : ∀ W, Below w.heap.size w W → Calls Try.prog F #[.agg #[v, .int .u8 kk, .string nm, .string tt, .string dt]] W fun e w' => ∃ u, e = .returned (.tuple #[u, .int .i64 (chgE fs kk nm tt dt)]) ∧ (chgE fs kk nm tt dt = 0 → FsL w' u (chgF fs kk nm tt dt)) ∧ Below W.heap.size W w') :
    Calls Try.prog 22 #[.agg #[v, .bool dn, .int .i64 fu], .agg #[.int .u8 kk, .string nm, .string tt, .string dt]] w fun e w' => Did (doR fs dn fu kk nm tt dt) w e w' := by
  unfold doR
  rw [if_neg (by simpa using hk)]
  cases dn with
  | true =>
    rw [if_pos rfl]
    exact (do_down F v fu kk nm tt dt fs w h hl).mono fun e w' ⟨h1, h2⟩ => Did.of h1 (h.below h2) h2
  | false =>
    rw [if_neg (by simp)]
    by_cases he : chgE fs kk nm tt dt = 0
    · rw [if_neg (by simpa using he)]
      refine (do_done F v fu kk nm tt dt fs w h hl eg (chgF fs kk nm tt dt) hr (fun W hb => (hc W hb).mono ?_)).mono ?_
      · rintro e w' ⟨u, h1, h2, h3⟩
        have h4 := h2 he
        obtain ⟨q, dd, rfl, r⟩ := h4
        exact ⟨q, _, dd, by rw [h1, he], ⟨q, dd, rfl, r⟩, h3⟩
      · rintro e w' ⟨u, h1, h2, h3⟩
        refine Did.of h1 ?_ h3
        show FsL w' _ (if fu = 0 ∧ kk ≠ 1 then fs else chgF fs kk nm tt dt)
        split
        · exact h.below h3
        · exact h2
    · rw [if_pos he]
      exact (do_fail F v fu kk nm tt dt fs w h hl eg _ _ hc he).mono fun e w' ⟨h1, h2⟩ => Did.of h1 (h.below h2) h2
theorem do_any (v : Value) (dn : Bool) (fu kk : Int) (nm tt dt : ByteArray) (fs : List DF) (w : World) (h : FsL w v fs) (hok : OkF fs) (hm : (fs.length + 1) * 40 ≤ 140737488355328) (hr : -9223372036854775808 ≤ fu ∧ fu ≤ 9223372036854775807)
    (h1 : nm.size ≤ 140737488355328) (h2 : tt.size ≤ 140737488355328) (h3 : dt.size ≤ 140737488355328) :
    Calls Try.prog 22 #[.agg #[v, .bool dn, .int .i64 fu], .agg #[.int .u8 kk, .string nm, .string tt, .string dt]] w fun e w' => Did (doR fs dn fu kk nm tt dt) w e w' := by
  have hu : Up fs := hok.2.1
  by_cases k1 : kk = 1
  · subst k1
    exact do_known 39 v dn fu 1 nm tt dt fs w h (by omega) hr (fun W r c hr => (look_of (k := 1) hr).1 rfl) enters39 (fun W hb => put_any v 1 nm tt dt fs W (h.below hb) hu hok.2.2.2 hm ⟨h1, h3⟩)
  by_cases k2 : kk = 2
  · subst k2
    exact do_known 40 v dn fu 2 nm tt dt fs w h (by omega) hr (fun W r c hr => (look_of (k := 2) hr).2.1 rfl) enters40 (fun W hb => sync_any v 2 nm tt dt fs W (h.below hb) hu hm)
  by_cases k3 : kk = 3
  · subst k3
    exact do_known 41 v dn fu 3 nm tt dt fs w h (by omega) hr (fun W r c hr => (look_of (k := 3) hr).2.2.1 rfl) enters41 (fun W hb => move_any v 3 nm tt dt fs W (h.below hb) hu hm h2)
  by_cases k4 : kk = 4
  · subst k4
    exact do_known 42 v dn fu 4 nm tt dt fs w h (by omega) hr (fun W r c hr => (look_of (k := 4) hr).2.2.2.1 rfl) enters42 (fun W hb => drop_any v 4 nm tt dt fs W (h.below hb) hu)
  unfold doR
  rw [if_pos (by omega)]
  exact (do_none v dn fu kk nm tt dt fs w h ⟨k1, k2, k3, k4⟩).mono fun e w' ⟨h1, h2⟩ => Did.of h1 (h.below h2) h2
theorem setCell_self {W : World} {g k : Nat} {cur : Array Value} {t : TypeId} {v : Value} (hg : W.heap[g]? = some (.cells cur t (0, 0))) (h : cur[k]? = some v) : W.setCell ⟨g, k, none⟩ v = W := by
  rw [setCell_eq_setRow W g k cur t (0, 0) v hg]
  have : cur.setIfInBounds k v = cur := by
    apply Array.ext_getElem?
    intro j
    by_cases e : k = j
    · subst e
      have hk : k < cur.size := (Array.getElem?_eq_some_iff.1 h).1
      rw [Array.getElem?_setIfInBounds_self_of_lt hk, h]
    · rw [Array.getElem?_setIfInBounds_ne e]
  rw [this]
  exact setRow_self W g cur t (0, 0) hg
set_option maxRecDepth 100000 in
set_option maxHeartbeats 2000000 in
theorem copyFiles_any (v : Value) (fs : List DF) (w : World) (h : FsL w v fs) :
    Calls Try.prog 23 #[v] w fun e w' => ∃ u, e = .returned u ∧ OwnF w.heap.size w' u fs ∧ Below w.heap.size w w' := by
  have C1 : Hid (Calls Try.prog 30 #[v] w fun e w' => ∃ u, e = .returned u ∧ OwnF w.heap.size w' u fs ∧ Below w.heap.size w w') := cloneF_any v fs w h
  have HS : Hid (SmallF fs) := h.small
  have hmany := h.many
  obtain ⟨p, c, rfl, _⟩ := h
  go_enter Try.func23, Try.ntmps23
  go_wp2_with fail
  refine C1.out.mono ?_
  rintro e w1 ⟨u1, rfl, ho1, hb1⟩
  have HO1 : Hid (OwnF w.heap.size w1 u1 fs) := ho1
  have HB1 : Hid (Below w.heap.size w w1) := hb1
  clear C1 hb1
  obtain ⟨hl, ⟨rfl, h0⟩ | ⟨g, cap, cur, rfl, hbg, hg, hnc, hcm, hcs, htake⟩⟩ := ho1
  · have hf : fs = [] := List.eq_nil_of_length_eq_zero h0
    subst hf
    clear h0 hl
    go_wp2_with fail
    go_loopg [10] 0 (fun gf s10 wx => s10 = .int .i64 0 ∧ wx = w1)
    case atStart => exact ⟨rfl, rfl⟩
    case round =>
      obtain ⟨rfl, hwx⟩ := hrel
      subst hwx
      go_wp2_with fail
      go_ret
      exact ⟨_, rfl, HO1.out, HB1.out⟩
  · have hcell : ∀ j, j < fs.length * 3 → cur[j]? = (flat fs)[j]? := fun j hj => by rw [← htake, List.getElem?_take_of_lt hj]; simp
    have HCE : Hid (∀ j, j < fs.length * 3 → cur[j]? = (flat fs)[j]?) := hcell
    have HG : Hid (w1.heap[g]? = some (.cells cur 41 (0, 0))) := hg
    clear hcell htake hl hcs hcm
    have hglt : g < w1.heap.size := (Array.getElem?_eq_some_iff.1 hg).1
    clear hg
    go_wp2_with fail
    go_loopg [10] fs.length (fun gf s10 wx => ∃ i : Nat, s10 = .int .i64 i ∧ i ≤ fs.length ∧ fs.length ≤ i + gf ∧ Hid (Below w1.heap.size w1 wx))
    case atStart => exact ⟨0, rfl, by omega, by omega, Below.refl _ _⟩
    case round =>
      obtain ⟨i, rfl, hi1, hgf, HB⟩ := hrel
      by_cases hi : i < fs.length
      · obtain ⟨g', rfl⟩ : ∃ g', gk = g' + 1 := ⟨gk - 1, by omega⟩
        have hgr : wr.heap[g]? = some (.cells cur 41 (0, 0)) := by rw [HB.out.block _ hglt]; exact HG.out
        obtain ⟨f0, f1, f2⟩ := flat_at fs i hi
        rw [← HCE.out _ (by omega)] at f0 f1 f2
        obtain ⟨s1, s2⟩ := HS.out _ (List.getElem_mem hi)
        obtain ⟨⟨n, d, y⟩, hf⟩ : ∃ f, fs[i] = f := ⟨_, rfl⟩
        rw [hf] at f0 f1 f2 s1 s2
        simp only at f0 f1 f2 s1 s2
        have c0 := cell_of_row hgr f0
        have c1 := cell_of_row hgr f1
        have c2 := cell_of_row hgr f2
        have z0 : (0 : Int) ≤ (i : Int) := by omega
        have z1 : (i : Int) < (fs.length : Int) := by omega
        have HF0 : Hid (cur[i * 3]? = some (.string n) ∧ cur[i * 3 + 1]? = some (.string d)) := ⟨f0, f1⟩
        obtain ⟨W1, hW1⟩ : ∃ W1, wr.alloc (.cells #[.string n, .string d, .int .i64 y] 41) = W1 := ⟨_, rfl⟩
        have hbx : W1.heap[wr.heap.size]? = some (.cells #[.string n, .string d, .int .i64 y] 41 (0, 0)) := by rw [← hW1]; exact heap_alloc_new wr _
        have hltx : wr.heap.size < W1.heap.size := (Array.getElem?_eq_some_iff.1 hbx).1
        have HB2 : Hid (Below w1.heap.size w1 W1) := by rw [← hW1]; exact HB.out.alloc HB.out.size _
        have b0 := cell_of_row (k := 0) hbx rfl
        have K1 : Hid (Calls Try.prog 29 #[.string n] W1 fun e w' => e = .returned (.string n) ∧ Below W1.heap.size W1 w') := clone_any n W1 s1
        have K2 : Hid (∀ W, Calls Try.prog 29 #[.string d] W fun e w' => e = .returned (.string d) ∧ Below W.heap.size W w') := fun W => clone_any d W s2
        have HBX : Hid (W1.heap[wr.heap.size]? = some (.cells #[.string n, .string d, .int .i64 y] 41 (0, 0))) := hbx
        clear hbx hgr f0 f1 f2 s1 s2 hf HB
        go_wp2_with fail
        refine K1.out.mono ?_
        rintro e w2 ⟨rfl, hb2⟩
        have hB2 : Below w1.heap.size w1 w2 := HB2.out.trans (hb2.mono HB2.out.size)
        have hg2 : w2.heap[g]? = some (.cells cur 41 (0, 0)) := by rw [hB2.block _ hglt]; exact HG.out
        have t1 : w2.setCell ⟨g, i * 3, none⟩ (.string n) = w2 := setCell_self hg2 HF0.out.1
        have t2 := cell_of_row hg2 HF0.out.1
        have t3 := frozen_zero hg2 (i * 3)
        have hbx2 : w2.heap[wr.heap.size]? = some (.cells #[.string n, .string d, .int .i64 y] 41 (0, 0)) := by rw [hb2.block _ hltx]; exact HBX.out
        have b1 := cell_of_row (k := 1) hbx2 rfl
        have HB3 : Hid (Below w1.heap.size w1 w2) := hB2
        clear K1 hb2 hB2 hg2 hbx2 b0 c0 c1 c2
        go_wp2_with fail
        refine (K2.out _).mono ?_
        rintro e w3 ⟨rfl, hb3⟩
        have hB4 : Below w1.heap.size w1 w3 := HB3.out.trans (hb3.mono HB3.out.size)
        have hg3 : w3.heap[g]? = some (.cells cur 41 (0, 0)) := by rw [hB4.block _ hglt]; exact HG.out
        have r1 : w3.setCell ⟨g, i * 3 + 1, none⟩ (.string d) = w3 := setCell_self hg3 HF0.out.2
        have r2 := cell_of_row hg3 HF0.out.2
        have r3 := frozen_zero hg3 (i * 3 + 1)
        have HB4 : Hid (Below w1.heap.size w1 w3) := hB4
        clear K2 hb3 hB4 hg3 t1 t2 t3 b1
        go_wp2_with fail
        go_roundg g'
        case measure => omega
        case rel => exact ⟨i + 1, by go_num, by omega, by omega, HB4⟩
      · have z1 : ¬ (i : Int) < (fs.length : Int) := by omega
        have HF : Hid (OwnF w.heap.size wr (.slice (some ⟨g, 0, none⟩) fs.length cap) fs ∧ Below w.heap.size w wr) := ⟨HO1.out.below HB.out, HB1.out.trans (HB.out.mono HB1.out.size)⟩
        clear HB
        go_wp2_with fail
        go_ret
        exact ⟨_, rfl, HF.out⟩
end Go.Proofs.Ytedjfbkpebmggaa
