/- The fields' table, and whether a kind is among some. -/
import Derived.Test.YtajomnfeicfdlaaGreatDoorWnWoWp
namespace Go.Proofs.YtajomnfeicfdlaaGreatDoor
open Go.Shelf Go.RowKit Go.Lib
set_option linter.unusedVariables false
set_option linter.unusedSimpArgs false
attribute [local go_sem ↓] Go.wp_at_zero Go.wp_at_succ
/-- Kinds in memory. -/
def KndsAt (W : World) (b : Nat) (ks : List Nat) : Prop := ∀ (j u : Nat), ks[j]? = some u → W.cell? ⟨b, j, none⟩ = some (.int .u8 (u : Int))
set_option maxRecDepth 100000 in
set_option maxHeartbeats 1000000 in
theorem index_any (b k : Nat) (ks : List Nat) (w : World) (h : KndsAt w b ks) (hl : ks.length ≤ 100) :
  Calls Tryz.prog 117 #[.slice (some ⟨b, 0, none⟩) ks.length ks.length, .int .u8 (k : Int)] w fun e w' => ∃ r : Int, e = .returned (.int .i64 r) ∧ (0 ≤ r ↔ k ∈ ks) ∧ w' = w := by
 have HK : Hid (KndsAt w b ks) := h
 clear h
 go_enter Tryz.func117, Tryz.ntmps117
 go_wp2_with fail
 go_loopg [8] ks.length (fun gf s8 wx => ∃ i : Nat, s8 = .int .i64 (i : Int) ∧ Hid (i + gf = ks.length) ∧ Hid (∀ j, j < i → ks[j]? ≠ some k) ∧ wx = w)
 case atStart => exact ⟨0, rfl, by show _ = _; omega, fun j hj => by omega, rfl⟩
 case round =>
  obtain ⟨i, rfl, H1, H2, rfl⟩ := hrel
  by_cases hi : i < ks.length
  ·obtain ⟨g', rfl⟩ : ∃ g', gk = g' + 1 := ⟨gk - 1, by have := H1.out; omega⟩
   have z0 : (0 : Int) ≤ (i : Int) := by omega
   have z1 : (i : Int) < (ks.length : Int) := by omega
   have HU : Hid (ks[i]? = some ks[i]) := List.getElem?_eq_getElem hi
   have hc := HK.out i _ HU.out
   obtain ⟨u, hu⟩ : ∃ u, ks[i] = u := ⟨_, rfl⟩
   rw [hu] at hc HU
   clear hu
   by_cases he : k = u
   ·have y0 : ((k : Int) == (u : Int)) = true := by simp [he]
    have HM : Hid (k ∈ ks) := by show k ∈ ks; rw [he]; exact List.mem_of_getElem? HU.out
    clear he
    go_wp2_with fail
    go_ret
    exact ⟨_, rfl, ⟨fun _ => HM.out, fun _ => by omega⟩, rfl⟩
   ·have y0 : ((k : Int) == (u : Int)) = false := by simp; omega
    have HE : Hid (k ≠ u) := he
    clear he
    go_wp2_with fail
    go_roundg g'
    case measure => omega
    case rel =>
     refine ⟨i + 1, by go_num, by show _ = _; have := H1.out; omega, fun j hj => ?_, rfl⟩
     by_cases e : j = i
     ·rw [e, HU.out]
      intro e2
      exact HE.out (Option.some.inj e2).symm
     ·exact H2.out j (by omega)
  ·have z1 : ¬ (i : Int) < (ks.length : Int) := by omega
   have HN : Hid (¬ k ∈ ks) := by
    intro hm
    obtain ⟨j, hj, e⟩ := List.getElem_of_mem hm
    exact H2.out j (by omega) (by rw [List.getElem?_eq_getElem hj, e])
   clear hi
   go_wp2_with fail
   go_ret
   exact ⟨-1, rfl, ⟨fun h => by omega, fun h => absurd h HN.out⟩, rfl⟩
set_option maxRecDepth 100000 in
set_option maxHeartbeats 1000000 in
theorem contains_any (b k : Nat) (ks : List Nat) (w : World) (h : KndsAt w b ks) (hl : ks.length ≤ 100) :
  Calls Tryz.prog 91 #[.slice (some ⟨b, 0, none⟩) ks.length ks.length, .int .u8 (k : Int)] w fun e w' => e = .returned (.bool (ks.contains k)) ∧ w' = w := by
 have C : Hid (Calls Tryz.prog 117 #[.slice (some ⟨b, 0, none⟩) ks.length ks.length, .int .u8 (k : Int)] w fun e w' => ∃ r : Int, e = .returned (.int .i64 r) ∧ (0 ≤ r ↔ k ∈ ks) ∧ w' = w) := index_any b k ks w h hl
 clear h
 go_enter Tryz.func91, Tryz.ntmps91
 go_wp2_with fail
 refine C.out.mono ?_
 rintro e w2 ⟨r, rfl, h1, rfl⟩
 have HR : Hid (0 ≤ r ↔ k ∈ ks) := h1
 clear h1 C
 by_cases hr : 0 ≤ r
 ·have HB : Hid (ks.contains k = true) := by show _ = _; simpa using HR.out.1 hr
  go_wp2_with fail
  go_ret
  exact ⟨by rw [HB.out]; rfl, rfl⟩
 ·have HB : Hid (ks.contains k = false) := by
   show _ = _
   rw [Bool.eq_false_iff]
   intro h
   exact hr (HR.out.2 (by simpa using h))
  go_wp2_with fail
  go_ret
  have hd : decide (0 ≤ r) = false := by simp; omega
  exact ⟨by rw [HB.out]; show Ending.returned (.bool (decide (0 ≤ r))) = _; rw [hd], rfl⟩
/-- The kinds that have each field. -/
def ofK : List (List Nat) := [[1], [2, 3, 4, 5, 6], [2, 3, 4, 5], [3, 4, 5], [4, 5], [2], [2], [2], [2], [4, 5], [4], [4], [7, 8], [7], [9]]
def u8a (ks : List Nat) : Array Value := (ks.map fun (k : Nat) => Value.int .u8 (k : Int)).toArray
/-- A field of the table. -/
def fcell (t p n i : Nat) : List Value := [.func (.func (102 + i)) #[wk t p] #[], .slice (some ⟨n + 1 + i, 0, none⟩) (ofK.getD i []).length (ofK.getD i []).length]
/-- The table of the fields, made behind n blocks. -/
def FldsAt (W : World) (t p n : Nat) : Prop := ∀ i, i < 15 → W.cell? ⟨n + 16, i * 2, none⟩ = some (.func (.func (102 + i)) #[wk t p] #[]) ∧ W.cell? ⟨n + 16, i * 2 + 1, none⟩ = some (.slice (some ⟨n + 1 + i, 0, none⟩) (ofK.getD i []).length (ofK.getD i []).length) ∧ KndsAt W (n + 1 + i) (ofK.getD i [])
end Go.Proofs.YtajomnfeicfdlaaGreatDoor
/- What fields answers. -/
namespace Go.Proofs.YtajomnfeicfdlaaGreatDoor
open Go.Shelf Go.RowKit Go.Lib
set_option linter.unusedVariables false
set_option linter.unusedSimpArgs false
attribute [local go_sem ↓] Go.wp_at_zero Go.wp_at_succ
/-- Blocks that are made one behind the other. -/
def allocs (w : World) (l : List Obj) : World := l.foldl World.alloc w
theorem allocs_size : ∀ (l : List Obj) (w : World), (allocs w l).heap.size = w.heap.size + l.length
 | [], w => rfl
 | o :: l, w => by
  have := allocs_size l (w.alloc o)
  simp only [allocs, List.foldl_cons] at this ⊢
  rw [this]
  simp
  omega
theorem allocs_old : ∀ (l : List Obj) (w : World) (k : Nat), k < w.heap.size → (allocs w l).heap[k]? = w.heap[k]?
 | [], w, k, _ => rfl
 | o :: l, w, k, h => by
  have := allocs_old l (w.alloc o) k (by simp; omega)
  simp only [allocs, List.foldl_cons] at this ⊢
  rw [this]
  exact hao w o k h
theorem allocs_new : ∀ (l : List Obj) (w : World) (i : Nat) (o : Obj), l[i]? = some o → (allocs w l).heap[w.heap.size + i]? = some o
 | [], w, i, o, h => by simp at h
 | a :: l, w, 0, o, h => by
  simp at h
  subst h
  have := allocs_old l (w.alloc a) w.heap.size (by simp)
  simp only [allocs, List.foldl_cons] at this ⊢
  rw [Nat.add_zero, this]
  exact heap_alloc_new w a
 | a :: l, w, i + 1, o, h => by
  have := allocs_new l (w.alloc a) i o (by simpa using h)
  simp only [allocs, List.foldl_cons] at this ⊢
  rw [show w.heap.size + (i + 1) = (w.alloc a).heap.size + i by simp; omega]
  exact this
theorem allocs_kept : ∀ (l : List Obj) (w : World), (allocs w l).os = w.os ∧ (allocs w l).tape = w.tape ∧ (allocs w l).output = w.output
 | [], w => ⟨rfl, rfl, rfl⟩
 | o :: l, w => allocs_kept l (w.alloc o)
theorem allocs_below (w : World) (l : List Obj) : Below w.heap.size w (allocs w l) :=
 ⟨(allocs_kept l w).1, (allocs_kept l w).2.1, (allocs_kept l w).2.2, by rw [allocs_size]; omega, fun k hk => allocs_old l w k hk⟩
/-- What fields makes. -/
def fldO (w : World) (t p : Nat) : List Obj := [wb t p, .cells #[.int .u8 1] 45, .cells #[.int .u8 2, .int .u8 3, .int .u8 4, .int .u8 5, .int .u8 6] 45, .cells #[.int .u8 2, .int .u8 3, .int .u8 4, .int .u8 5] 45, .cells #[.int .u8 3, .int .u8 4, .int .u8 5] 45, .cells #[.int .u8 4, .int .u8 5] 45, .cells #[.int .u8 2] 45, .cells #[.int .u8 2] 45, .cells #[.int .u8 2] 45, .cells #[.int .u8 2] 45, .cells #[.int .u8 4, .int .u8 5] 45, .cells #[.int .u8 4] 45, .cells #[.int .u8 4] 45, .cells #[.int .u8 7, .int .u8 8] 45, .cells #[.int .u8 7] 45, .cells #[.int .u8 9] 45, .cells #[.func (.func 102) #[.agg #[.iface t (.pointer (some ⟨p, 0, none⟩))]] #[], .slice (some ⟨w.heap.size + 1, 0, none⟩) 1 1, .func (.func 103) #[.agg #[.iface t (.pointer (some ⟨p, 0, none⟩))]] #[], .slice (some ⟨w.heap.size + 2, 0, none⟩) 5 5, .func (.func 104) #[.agg #[.iface t (.pointer (some ⟨p, 0, none⟩))]] #[], .slice (some ⟨w.heap.size + 3, 0, none⟩) 4 4, .func (.func 105) #[.agg #[.iface t (.pointer (some ⟨p, 0, none⟩))]] #[], .slice (some ⟨w.heap.size + 4, 0, none⟩) 3 3, .func (.func 106) #[.agg #[.iface t (.pointer (some ⟨p, 0, none⟩))]] #[], .slice (some ⟨w.heap.size + 5, 0, none⟩) 2 2, .func (.func 107) #[.agg #[.iface t (.pointer (some ⟨p, 0, none⟩))]] #[], .slice (some ⟨w.heap.size + 6, 0, none⟩) 1 1, .func (.func 108) #[.agg #[.iface t (.pointer (some ⟨p, 0, none⟩))]] #[], .slice (some ⟨w.heap.size + 7, 0, none⟩) 1 1, .func (.func 109) #[.agg #[.iface t (.pointer (some ⟨p, 0, none⟩))]] #[], .slice (some ⟨w.heap.size + 8, 0, none⟩) 1 1, .func (.func 110) #[.agg #[.iface t (.pointer (some ⟨p, 0, none⟩))]] #[], .slice (some ⟨w.heap.size + 9, 0, none⟩) 1 1, .func (.func 111) #[.agg #[.iface t (.pointer (some ⟨p, 0, none⟩))]] #[], .slice (some ⟨w.heap.size + 10, 0, none⟩) 2 2, .func (.func 112) #[.agg #[.iface t (.pointer (some ⟨p, 0, none⟩))]] #[], .slice (some ⟨w.heap.size + 11, 0, none⟩) 1 1, .func (.func 113) #[.agg #[.iface t (.pointer (some ⟨p, 0, none⟩))]] #[], .slice (some ⟨w.heap.size + 12, 0, none⟩) 1 1, .func (.func 114) #[.agg #[.iface t (.pointer (some ⟨p, 0, none⟩))]] #[], .slice (some ⟨w.heap.size + 13, 0, none⟩) 2 2, .func (.func 115) #[.agg #[.iface t (.pointer (some ⟨p, 0, none⟩))]] #[], .slice (some ⟨w.heap.size + 14, 0, none⟩) 1 1, .func (.func 116) #[.agg #[.iface t (.pointer (some ⟨p, 0, none⟩))]] #[], .slice (some ⟨w.heap.size + 15, 0, none⟩) 1 1] 174]
theorem fldO_at (w : World) (t p : Nat) : FldsAt (allocs w (fldO w t p)) t p w.heap.size := by
 intro i hi
 have hg : (allocs w (fldO w t p)).heap[w.heap.size + 16]? = some (.cells #[.func (.func 102) #[.agg #[.iface t (.pointer (some ⟨p, 0, none⟩))]] #[], .slice (some ⟨w.heap.size + 1, 0, none⟩) 1 1, .func (.func 103) #[.agg #[.iface t (.pointer (some ⟨p, 0, none⟩))]] #[], .slice (some ⟨w.heap.size + 2, 0, none⟩) 5 5, .func (.func 104) #[.agg #[.iface t (.pointer (some ⟨p, 0, none⟩))]] #[], .slice (some ⟨w.heap.size + 3, 0, none⟩) 4 4, .func (.func 105) #[.agg #[.iface t (.pointer (some ⟨p, 0, none⟩))]] #[], .slice (some ⟨w.heap.size + 4, 0, none⟩) 3 3, .func (.func 106) #[.agg #[.iface t (.pointer (some ⟨p, 0, none⟩))]] #[], .slice (some ⟨w.heap.size + 5, 0, none⟩) 2 2, .func (.func 107) #[.agg #[.iface t (.pointer (some ⟨p, 0, none⟩))]] #[], .slice (some ⟨w.heap.size + 6, 0, none⟩) 1 1, .func (.func 108) #[.agg #[.iface t (.pointer (some ⟨p, 0, none⟩))]] #[], .slice (some ⟨w.heap.size + 7, 0, none⟩) 1 1, .func (.func 109) #[.agg #[.iface t (.pointer (some ⟨p, 0, none⟩))]] #[], .slice (some ⟨w.heap.size + 8, 0, none⟩) 1 1, .func (.func 110) #[.agg #[.iface t (.pointer (some ⟨p, 0, none⟩))]] #[], .slice (some ⟨w.heap.size + 9, 0, none⟩) 1 1, .func (.func 111) #[.agg #[.iface t (.pointer (some ⟨p, 0, none⟩))]] #[], .slice (some ⟨w.heap.size + 10, 0, none⟩) 2 2, .func (.func 112) #[.agg #[.iface t (.pointer (some ⟨p, 0, none⟩))]] #[], .slice (some ⟨w.heap.size + 11, 0, none⟩) 1 1, .func (.func 113) #[.agg #[.iface t (.pointer (some ⟨p, 0, none⟩))]] #[], .slice (some ⟨w.heap.size + 12, 0, none⟩) 1 1, .func (.func 114) #[.agg #[.iface t (.pointer (some ⟨p, 0, none⟩))]] #[], .slice (some ⟨w.heap.size + 13, 0, none⟩) 2 2, .func (.func 115) #[.agg #[.iface t (.pointer (some ⟨p, 0, none⟩))]] #[], .slice (some ⟨w.heap.size + 14, 0, none⟩) 1 1, .func (.func 116) #[.agg #[.iface t (.pointer (some ⟨p, 0, none⟩))]] #[], .slice (some ⟨w.heap.size + 15, 0, none⟩) 1 1] 174 (0, 0)) := allocs_new _ w 16 _ rfl
 match i, hi with
 | 0, _ =>
  refine ⟨cellR hg rfl, cellR hg rfl, fun j u hj => ?_⟩
  have hk : (allocs w (fldO w t p)).heap[w.heap.size + 1 + 0]? = some (.cells #[.int .u8 1] 45 (0, 0)) := allocs_new _ w 1 _ rfl
  replace hj : ([1] : List Nat)[j]? = some u := hj
  match j, hj with
  | 0, hj => simp at hj; subst hj; exact cellR hk rfl
  | j + 1, hj => simp at hj
 | 1, _ =>
  refine ⟨cellR hg rfl, cellR hg rfl, fun j u hj => ?_⟩
  have hk : (allocs w (fldO w t p)).heap[w.heap.size + 1 + 1]? = some (.cells #[.int .u8 2, .int .u8 3, .int .u8 4, .int .u8 5, .int .u8 6] 45 (0, 0)) := allocs_new _ w 2 _ rfl
  replace hj : ([2, 3, 4, 5, 6] : List Nat)[j]? = some u := hj
  match j, hj with
  | 0, hj => simp at hj; subst hj; exact cellR hk rfl
  | 1, hj => simp at hj; subst hj; exact cellR hk rfl
  | 2, hj => simp at hj; subst hj; exact cellR hk rfl
  | 3, hj => simp at hj; subst hj; exact cellR hk rfl
  | 4, hj => simp at hj; subst hj; exact cellR hk rfl
  | j + 5, hj => simp at hj
 | 2, _ =>
  refine ⟨cellR hg rfl, cellR hg rfl, fun j u hj => ?_⟩
  have hk : (allocs w (fldO w t p)).heap[w.heap.size + 1 + 2]? = some (.cells #[.int .u8 2, .int .u8 3, .int .u8 4, .int .u8 5] 45 (0, 0)) := allocs_new _ w 3 _ rfl
  replace hj : ([2, 3, 4, 5] : List Nat)[j]? = some u := hj
  match j, hj with
  | 0, hj => simp at hj; subst hj; exact cellR hk rfl
  | 1, hj => simp at hj; subst hj; exact cellR hk rfl
  | 2, hj => simp at hj; subst hj; exact cellR hk rfl
  | 3, hj => simp at hj; subst hj; exact cellR hk rfl
  | j + 4, hj => simp at hj
 | 3, _ =>
  refine ⟨cellR hg rfl, cellR hg rfl, fun j u hj => ?_⟩
  have hk : (allocs w (fldO w t p)).heap[w.heap.size + 1 + 3]? = some (.cells #[.int .u8 3, .int .u8 4, .int .u8 5] 45 (0, 0)) := allocs_new _ w 4 _ rfl
  replace hj : ([3, 4, 5] : List Nat)[j]? = some u := hj
  match j, hj with
  | 0, hj => simp at hj; subst hj; exact cellR hk rfl
  | 1, hj => simp at hj; subst hj; exact cellR hk rfl
  | 2, hj => simp at hj; subst hj; exact cellR hk rfl
  | j + 3, hj => simp at hj
 | 4, _ =>
  refine ⟨cellR hg rfl, cellR hg rfl, fun j u hj => ?_⟩
  have hk : (allocs w (fldO w t p)).heap[w.heap.size + 1 + 4]? = some (.cells #[.int .u8 4, .int .u8 5] 45 (0, 0)) := allocs_new _ w 5 _ rfl
  replace hj : ([4, 5] : List Nat)[j]? = some u := hj
  match j, hj with
  | 0, hj => simp at hj; subst hj; exact cellR hk rfl
  | 1, hj => simp at hj; subst hj; exact cellR hk rfl
  | j + 2, hj => simp at hj
 | 5, _ =>
  refine ⟨cellR hg rfl, cellR hg rfl, fun j u hj => ?_⟩
  have hk : (allocs w (fldO w t p)).heap[w.heap.size + 1 + 5]? = some (.cells #[.int .u8 2] 45 (0, 0)) := allocs_new _ w 6 _ rfl
  replace hj : ([2] : List Nat)[j]? = some u := hj
  match j, hj with
  | 0, hj => simp at hj; subst hj; exact cellR hk rfl
  | j + 1, hj => simp at hj
 | 6, _ =>
  refine ⟨cellR hg rfl, cellR hg rfl, fun j u hj => ?_⟩
  have hk : (allocs w (fldO w t p)).heap[w.heap.size + 1 + 6]? = some (.cells #[.int .u8 2] 45 (0, 0)) := allocs_new _ w 7 _ rfl
  replace hj : ([2] : List Nat)[j]? = some u := hj
  match j, hj with
  | 0, hj => simp at hj; subst hj; exact cellR hk rfl
  | j + 1, hj => simp at hj
 | 7, _ =>
  refine ⟨cellR hg rfl, cellR hg rfl, fun j u hj => ?_⟩
  have hk : (allocs w (fldO w t p)).heap[w.heap.size + 1 + 7]? = some (.cells #[.int .u8 2] 45 (0, 0)) := allocs_new _ w 8 _ rfl
  replace hj : ([2] : List Nat)[j]? = some u := hj
  match j, hj with
  | 0, hj => simp at hj; subst hj; exact cellR hk rfl
  | j + 1, hj => simp at hj
 | 8, _ =>
  refine ⟨cellR hg rfl, cellR hg rfl, fun j u hj => ?_⟩
  have hk : (allocs w (fldO w t p)).heap[w.heap.size + 1 + 8]? = some (.cells #[.int .u8 2] 45 (0, 0)) := allocs_new _ w 9 _ rfl
  replace hj : ([2] : List Nat)[j]? = some u := hj
  match j, hj with
  | 0, hj => simp at hj; subst hj; exact cellR hk rfl
  | j + 1, hj => simp at hj
 | 9, _ =>
  refine ⟨cellR hg rfl, cellR hg rfl, fun j u hj => ?_⟩
  have hk : (allocs w (fldO w t p)).heap[w.heap.size + 1 + 9]? = some (.cells #[.int .u8 4, .int .u8 5] 45 (0, 0)) := allocs_new _ w 10 _ rfl
  replace hj : ([4, 5] : List Nat)[j]? = some u := hj
  match j, hj with
  | 0, hj => simp at hj; subst hj; exact cellR hk rfl
  | 1, hj => simp at hj; subst hj; exact cellR hk rfl
  | j + 2, hj => simp at hj
 | 10, _ =>
  refine ⟨cellR hg rfl, cellR hg rfl, fun j u hj => ?_⟩
  have hk : (allocs w (fldO w t p)).heap[w.heap.size + 1 + 10]? = some (.cells #[.int .u8 4] 45 (0, 0)) := allocs_new _ w 11 _ rfl
  replace hj : ([4] : List Nat)[j]? = some u := hj
  match j, hj with
  | 0, hj => simp at hj; subst hj; exact cellR hk rfl
  | j + 1, hj => simp at hj
 | 11, _ =>
  refine ⟨cellR hg rfl, cellR hg rfl, fun j u hj => ?_⟩
  have hk : (allocs w (fldO w t p)).heap[w.heap.size + 1 + 11]? = some (.cells #[.int .u8 4] 45 (0, 0)) := allocs_new _ w 12 _ rfl
  replace hj : ([4] : List Nat)[j]? = some u := hj
  match j, hj with
  | 0, hj => simp at hj; subst hj; exact cellR hk rfl
  | j + 1, hj => simp at hj
 | 12, _ =>
  refine ⟨cellR hg rfl, cellR hg rfl, fun j u hj => ?_⟩
  have hk : (allocs w (fldO w t p)).heap[w.heap.size + 1 + 12]? = some (.cells #[.int .u8 7, .int .u8 8] 45 (0, 0)) := allocs_new _ w 13 _ rfl
  replace hj : ([7, 8] : List Nat)[j]? = some u := hj
  match j, hj with
  | 0, hj => simp at hj; subst hj; exact cellR hk rfl
  | 1, hj => simp at hj; subst hj; exact cellR hk rfl
  | j + 2, hj => simp at hj
 | 13, _ =>
  refine ⟨cellR hg rfl, cellR hg rfl, fun j u hj => ?_⟩
  have hk : (allocs w (fldO w t p)).heap[w.heap.size + 1 + 13]? = some (.cells #[.int .u8 7] 45 (0, 0)) := allocs_new _ w 14 _ rfl
  replace hj : ([7] : List Nat)[j]? = some u := hj
  match j, hj with
  | 0, hj => simp at hj; subst hj; exact cellR hk rfl
  | j + 1, hj => simp at hj
 | 14, _ =>
  refine ⟨cellR hg rfl, cellR hg rfl, fun j u hj => ?_⟩
  have hk : (allocs w (fldO w t p)).heap[w.heap.size + 1 + 14]? = some (.cells #[.int .u8 9] 45 (0, 0)) := allocs_new _ w 15 _ rfl
  replace hj : ([9] : List Nat)[j]? = some u := hj
  match j, hj with
  | 0, hj => simp at hj; subst hj; exact cellR hk rfl
  | j + 1, hj => simp at hj
set_option maxRecDepth 100000 in
set_option maxHeartbeats 4000000 in
theorem fields_any (t p : Nat) (w : World) :
  Calls Tryz.prog 90 #[wk t p] w fun e w' => e = .returned (.slice (some ⟨w.heap.size + 16, 0, none⟩) 15 15) ∧ w' = allocs w (fldO w t p) := by
 unfold wk
 go_enter Tryz.func90, Tryz.ntmps90
 go_wp2_with fail
 go_ret
 exact ⟨rfl, rfl⟩
end Go.Proofs.YtajomnfeicfdlaaGreatDoor
