/- Whether a step may take values of some kinds: all steps but those that compare two. -/
import Derived.Test.YtfifphfihdhlaaaGreatDoorBaBbBcBdBe
set_option maxRecDepth 100000
set_option maxHeartbeats 32000000
namespace Go.Proofs.YtfifphfihdhlaaaGreatDoor.Bd
open Tryz
open Go.Shelf Go.RowKit Go.Lib Go.Sort
set_option linter.unusedVariables false
set_option linter.unusedSimpArgs false
attribute [local go_sem ↓] Go.wp_at_zero Go.wp_at_succ
theorem must_box (K : Nat → Prop) (q : Option Addr) (c : Nat) (l : List Nat) (m : Nat) (w : World) (h : ListIs rKnd 1 1 K w (.slice q l.length c) l) (hK : ∀ b, K b → b < w.heap.size) :
 Calls prog 119 #[.slice q l.length c, .func (.func 120) #[] #[.pointer (some ⟨w.heap.size, 0, none⟩)]] (w.alloc (.cells #[.int .u8 (m : Int)] 43)) fun e w' => e = .returned (.bool (!l.all (mayBe m))) ∧ Bl w w' := by
 have hb := below_alloc w (.cells #[.int .u8 (m : Int)] 43)
 refine (contains_knd K q c l m w.heap.size _ (h.later mKnd hK hb) (fun b hb' => nlt (hK b hb') hb.size) (cell_of_row (k := 0) (heap_alloc_new w _) rfl) (by simp)).mono fun e w' hh => ⟨hh.1, hb.trans (hh.2.mono hb.size)⟩
theorem fits_most (K : Nat → Prop) (k : Nat) (q : Option Addr) (c : Nat) (l : List Nat) (w : World) (h : ListIs rKnd 1 1 K w (.slice q l.length c) l) (hK : ∀ b, K b → b < w.heap.size) (hk : ¬ (14 ≤ k ∧ k ≤ 19)) :
 Calls prog 81 #[.int .u8 (k : Int), .slice q l.length c] w fun e w' => e = .returned (.bool (fitsP k l)) ∧ Bl w w' := by
 have hmf : ∀ (fn : Fn) (first cap : Array Value) (w : World), (Instr.makeFunc fn first cap).run prog w = .ok (.func fn first cap) w := fun _ _ _ _ => rfl
 have C1 : Hid (Calls prog 119 #[.slice q l.length c, .func (.func 120) #[] #[.pointer (some ⟨w.heap.size, 0, none⟩)]] (w.alloc (.cells #[.int .u8 1] 43)) fun e w' => e = .returned (.bool (!l.all (mayBe 1))) ∧ Bl w w') := must_box K q c l 1 w h hK
 have C2 : Hid (Calls prog 119 #[.slice q l.length c, .func (.func 120) #[] #[.pointer (some ⟨w.heap.size, 0, none⟩)]] (w.alloc (.cells #[.int .u8 2] 43)) fun e w' => e = .returned (.bool (!l.all (mayBe 2))) ∧ Bl w w') := must_box K q c l 2 w h hK
 have C3 : Hid (Calls prog 119 #[.slice q l.length c, .func (.func 120) #[] #[.pointer (some ⟨w.heap.size, 0, none⟩)]] (w.alloc (.cells #[.int .u8 3] 43)) fun e w' => e = .returned (.bool (!l.all (mayBe 3))) ∧ Bl w w') := must_box K q c l 3 w h hK
 obtain ⟨N, hN⟩ := gen l.length
 obtain ⟨R, hR⟩ := gen (fitsP k l)
 rw [hN] at C1 C2 C3
 rw [hN, hR]
 unfold fitsP at hR
 clear h hK hN
 by_cases e7 : k = 7
 case pos =>
  have y7 : ((k : Int) == 7) = true := by simp [e7]
  have HR : Hid (l.all (mayBe 2) = R) := by show _ = _; rw [← hR, if_pos (by omega)]
  rw [HR.out] at C2
  clear hR hk e7 C1 C3
  go_enter func81, ntmps81
  go_wp2_with fail
  refine C2.out.mono ?_
  rintro e w1 ⟨rfl, hb1⟩
  have HB1 := hid hb1
  clear C2 hb1
  go_wp2_with fail
  go_ret
  exact ⟨by simp, HB1.out⟩
 by_cases e11 : k = 11
 case pos =>
  have y7 : ((k : Int) == 7) = false := bfn (by omega)
  have y11 : ((k : Int) == 11) = true := by simp [e11]
  have HR : Hid (l.all (mayBe 2) = R) := by show _ = _; rw [← hR, if_pos (by omega)]
  rw [HR.out] at C2
  clear hR hk e7 e11 C1 C3
  go_enter func81, ntmps81
  go_wp2_with fail
  refine C2.out.mono ?_
  rintro e w1 ⟨rfl, hb1⟩
  have HB1 := hid hb1
  clear C2 hb1
  go_wp2_with fail
  go_ret
  exact ⟨by simp, HB1.out⟩
 by_cases e12 : k = 12
 case pos =>
  have y7 : ((k : Int) == 7) = false := bfn (by omega)
  have y11 : ((k : Int) == 11) = false := bfn (by omega)
  have y12 : ((k : Int) == 12) = true := by simp [e12]
  have HR : Hid (l.all (mayBe 2) = R) := by show _ = _; rw [← hR, if_pos (by omega)]
  rw [HR.out] at C2
  clear hR hk e7 e11 e12 C1 C3
  go_enter func81, ntmps81
  go_wp2_with fail
  refine C2.out.mono ?_
  rintro e w1 ⟨rfl, hb1⟩
  have HB1 := hid hb1
  clear C2 hb1
  go_wp2_with fail
  go_ret
  exact ⟨by simp, HB1.out⟩
 by_cases e13 : k = 13
 case pos =>
  have y7 : ((k : Int) == 7) = false := bfn (by omega)
  have y11 : ((k : Int) == 11) = false := bfn (by omega)
  have y12 : ((k : Int) == 12) = false := bfn (by omega)
  have y13 : ((k : Int) == 13) = true := by simp [e13]
  have HR : Hid (l.all (mayBe 2) = R) := by show _ = _; rw [← hR, if_pos (by omega)]
  rw [HR.out] at C2
  clear hR hk e7 e11 e12 e13 C1 C3
  go_enter func81, ntmps81
  go_wp2_with fail
  refine C2.out.mono ?_
  rintro e w1 ⟨rfl, hb1⟩
  have HB1 := hid hb1
  clear C2 hb1
  go_wp2_with fail
  go_ret
  exact ⟨by simp, HB1.out⟩
 by_cases e10 : k = 10
 case pos =>
  have y7 : ((k : Int) == 7) = false := bfn (by omega)
  have y11 : ((k : Int) == 11) = false := bfn (by omega)
  have y12 : ((k : Int) == 12) = false := bfn (by omega)
  have y13 : ((k : Int) == 13) = false := bfn (by omega)
  have y10 : ((k : Int) == 10) = true := by simp [e10]
  have HR : Hid (l.all (mayBe 3) = R) := by show _ = _; rw [← hR, if_neg (by omega), if_pos (by omega)]
  rw [HR.out] at C3
  clear hR hk e7 e11 e12 e13 e10 C1 C2
  go_enter func81, ntmps81
  go_wp2_with fail
  refine C3.out.mono ?_
  rintro e w1 ⟨rfl, hb1⟩
  have HB1 := hid hb1
  clear C3 hb1
  go_wp2_with fail
  go_ret
  exact ⟨by simp, HB1.out⟩
 by_cases e8 : k = 8
 case pos =>
  have y7 : ((k : Int) == 7) = false := bfn (by omega)
  have y11 : ((k : Int) == 11) = false := bfn (by omega)
  have y12 : ((k : Int) == 12) = false := bfn (by omega)
  have y13 : ((k : Int) == 13) = false := bfn (by omega)
  have y10 : ((k : Int) == 10) = false := bfn (by omega)
  have y8 : ((k : Int) == 8) = true := by simp [e8]
  have HR : Hid (l.all (mayBe 1) = R) := by show _ = _; rw [← hR, if_neg (by omega), if_neg (by omega), if_pos (by omega)]
  rw [HR.out] at C1
  clear hR hk e7 e11 e12 e13 e10 e8 C2 C3
  go_enter func81, ntmps81
  go_wp2_with fail
  refine C1.out.mono ?_
  rintro e w1 ⟨rfl, hb1⟩
  have HB1 := hid hb1
  clear C1 hb1
  go_wp2_with fail
  go_ret
  exact ⟨by simp, HB1.out⟩
 by_cases e20 : k = 20
 case pos =>
  have y7 : ((k : Int) == 7) = false := bfn (by omega)
  have y11 : ((k : Int) == 11) = false := bfn (by omega)
  have y12 : ((k : Int) == 12) = false := bfn (by omega)
  have y13 : ((k : Int) == 13) = false := bfn (by omega)
  have y10 : ((k : Int) == 10) = false := bfn (by omega)
  have y8 : ((k : Int) == 8) = false := bfn (by omega)
  have y20 : ((k : Int) == 20) = true := by simp [e20]
  have HR : Hid (l.all (mayBe 1) = R) := by show _ = _; rw [← hR, if_neg (by omega), if_neg (by omega), if_pos (by omega)]
  rw [HR.out] at C1
  clear hR hk e7 e11 e12 e13 e10 e8 e20 C2 C3
  go_enter func81, ntmps81
  go_wp2_with fail
  refine C1.out.mono ?_
  rintro e w1 ⟨rfl, hb1⟩
  have HB1 := hid hb1
  clear C1 hb1
  go_wp2_with fail
  go_ret
  exact ⟨by simp, HB1.out⟩
 by_cases e21 : k = 21
 case pos =>
  have y7 : ((k : Int) == 7) = false := bfn (by omega)
  have y11 : ((k : Int) == 11) = false := bfn (by omega)
  have y12 : ((k : Int) == 12) = false := bfn (by omega)
  have y13 : ((k : Int) == 13) = false := bfn (by omega)
  have y10 : ((k : Int) == 10) = false := bfn (by omega)
  have y8 : ((k : Int) == 8) = false := bfn (by omega)
  have y20 : ((k : Int) == 20) = false := bfn (by omega)
  have y21 : ((k : Int) == 21) = true := by simp [e21]
  have HR : Hid (l.all (mayBe 1) = R) := by show _ = _; rw [← hR, if_neg (by omega), if_neg (by omega), if_pos (by omega)]
  rw [HR.out] at C1
  clear hR hk e7 e11 e12 e13 e10 e8 e20 e21 C2 C3
  go_enter func81, ntmps81
  go_wp2_with fail
  refine C1.out.mono ?_
  rintro e w1 ⟨rfl, hb1⟩
  have HB1 := hid hb1
  clear C1 hb1
  go_wp2_with fail
  go_ret
  exact ⟨by simp, HB1.out⟩
 have y7 : ((k : Int) == 7) = false := bfn (by omega)
 have y11 : ((k : Int) == 11) = false := bfn (by omega)
 have y12 : ((k : Int) == 12) = false := bfn (by omega)
 have y13 : ((k : Int) == 13) = false := bfn (by omega)
 have y10 : ((k : Int) == 10) = false := bfn (by omega)
 have y8 : ((k : Int) == 8) = false := bfn (by omega)
 have y20 : ((k : Int) == 20) = false := bfn (by omega)
 have y21 : ((k : Int) == 21) = false := bfn (by omega)
 have y14 : ((k : Int) == 14) = false := bfn (by omega)
 have y15 : ((k : Int) == 15) = false := bfn (by omega)
 have y16 : ((k : Int) == 16) = false := bfn (by omega)
 have y17 : ((k : Int) == 17) = false := bfn (by omega)
 have y18 : ((k : Int) == 18) = false := bfn (by omega)
 have y19 : ((k : Int) == 19) = false := bfn (by omega)
 have HR : Hid (R = true) := by show _ = _; rw [← hR, if_neg (by omega), if_neg (by omega), if_neg (by omega), if_neg hk]
 clear hR hk C1 C2 C3 e7 e11 e12 e13 e10 e8 e20 e21
 go_enter func81, ntmps81
 go_wp2_with fail
 go_ret
 exact ⟨by rw [HR.out]; rfl, below_alloc _ _⟩
theorem late_box (w w1 : World) (m : Nat) (hb : Below (w.alloc (.cells #[.int .u8 0] 43)).heap.size (w.alloc (.cells #[.int .u8 0] 43)) w1) :
 w1.cell? ⟨w.heap.size, 0, none⟩ = some (.int .u8 0) ∧ w1.frozen? ⟨w.heap.size, 0, none⟩ = false ∧ ∃ X, w1.setCell ⟨w.heap.size, 0, none⟩ (.int .u8 (m : Int)) = X ∧ X.cell? ⟨w.heap.size, 0, none⟩ = some (.int .u8 (m : Int)) ∧ w.heap.size < X.heap.size ∧ Bl w X := by
 have hl : w.heap.size < (w.alloc (.cells #[.int .u8 0] 43)).heap.size := by simp
 have hg := (hb.block _ hl).trans (heap_alloc_new w (.cells #[.int .u8 0] 43))
 have e1 := setCell_eq_setRow w1 w.heap.size 0 #[.int .u8 0] 43 (0, 0) (.int .u8 (m : Int)) hg
 have hg1 : (w1.setCell ⟨w.heap.size, 0, none⟩ (.int .u8 (m : Int))).heap[w.heap.size]? = some (.cells #[.int .u8 (m : Int)] 43 (0, 0)) := by rw [e1]; exact setRow_heap _ _ _ _ _ _ hg
 obtain ⟨h1, h2, h3, h4, h5⟩ := setCell_any w1 w.heap.size 0 (.int .u8 (m : Int))
 have hb2 : Bl w w1 := (below_alloc w (.cells #[.int .u8 0] 43)).trans (hb.mono (by simp))
 have hs := hb.size
 refine ⟨cell_of_row (k := 0) hg rfl, ?_, _, rfl, cell_of_row (k := 0) hg1 rfl, by rw [h1]; omega, h2.trans hb2.os, h3.trans hb2.tape, h4.trans hb2.output, by rw [h1]; exact hb2.size, fun b h => (h5 b (by omega)).trans (hb2.block b h)⟩
 simp [World.frozen?, hg]
theorem fits_any (K : Nat → Prop) (k : Nat) (q : Option Addr) (c : Nat) (l : List Nat) (w : World) (h : ListIs rKnd 1 1 K w (.slice q l.length c) l) (hK : ∀ b, K b → b < w.heap.size) :
 Calls prog 81 #[.int .u8 (k : Int), .slice q l.length c] w fun e w' => e = .returned (.bool (fitsP k l)) ∧ Bl w w' := by
 by_cases hk : 14 ≤ k ∧ k ≤ 19
 case neg => exact fits_most K k q c l w h hK hk
 have hmf : ∀ (fn : Fn) (first cap : Array Value) (w : World), (Instr.makeFunc fn first cap).run prog w = .ok (.func fn first cap) w := fun _ _ _ _ => rfl
 have hb0 := below_alloc w (.cells #[.int .u8 0] 43)
 obtain ⟨M, hM⟩ := gen (orK l)
 have C0 : Hid (Calls prog 118 #[.slice q l.length c] (w.alloc (.cells #[.int .u8 0] 43)) fun e w' => e = .returned (.int .u8 (M : Int)) ∧ Below (w.alloc (.cells #[.int .u8 0] 43)).heap.size (w.alloc (.cells #[.int .u8 0] 43)) w') := by
  have := or_any K q c l _ (h.later mKnd hK hb0) (fun b hb => nlt (hK b hb) hb0.size)
  rw [hM] at this
  exact this
 have CN : Hid (∀ X, Bl w X → X.cell? ⟨w.heap.size, 0, none⟩ = some (.int .u8 (M : Int)) → w.heap.size < X.heap.size → Calls prog 119 #[.slice q l.length c, .func (.func 120) #[] #[.pointer (some ⟨w.heap.size, 0, none⟩)]] X fun e w' => e = .returned (.bool (!fitsP k l)) ∧ Bl X w') := fun X hb hc hlx => by
  have := contains_knd K q c l M w.heap.size X (h.later mKnd hK hb) (fun b hb' => nlt (hK b hb') hb.size) hc hlx
  rw [show fitsP k l = l.all (mayBe M) by unfold fitsP; rw [if_neg (by omega), if_neg (by omega), if_neg (by omega), if_pos hk, hM]]
  exact this
 obtain ⟨N, hN⟩ := gen l.length
 obtain ⟨R, hR⟩ := gen (fitsP k l)
 rw [hN] at C0
 rw [hN, hR] at CN
 rw [hN, hR]
 clear h hK hN hR hM hb0
 have y7 : ((k : Int) == 7) = false := bfn (by omega)
 have y11 : ((k : Int) == 11) = false := bfn (by omega)
 have y12 : ((k : Int) == 12) = false := bfn (by omega)
 have y13 : ((k : Int) == 13) = false := bfn (by omega)
 have y10 : ((k : Int) == 10) = false := bfn (by omega)
 have y8 : ((k : Int) == 8) = false := bfn (by omega)
 have y20 : ((k : Int) == 20) = false := bfn (by omega)
 have y21 : ((k : Int) == 21) = false := bfn (by omega)
 by_cases e14 : k = 14
 case pos =>
  have y14 : ((k : Int) == 14) = true := by simp; omega
  clear hk e14
  go_enter func81, ntmps81
  go_wp2_with fail
  refine C0.out.mono ?_
  rintro e w1 ⟨rfl, hb1⟩
  obtain ⟨c0, f0, X, hX, cX, hlX, hbX⟩ := late_box w w1 M hb1
  have CC := hid (CN.out X hbX cX hlX)
  have HBX := hid hbX
  clear CN C0 hb1 cX hlX hbX
  go_wp2_with fail
  refine CC.out.mono ?_
  rintro e w2 ⟨rfl, hb2⟩
  have HB2 : Hid (Bl w w2) := HBX.out.trans (hb2.mono HBX.out.size)
  clear CC hb2 HBX
  go_wp2_with fail
  go_ret
  exact ⟨by simp, HB2.out⟩
 by_cases e15 : k = 15
 case pos =>
  have y14 : ((k : Int) == 14) = false := bfn (by omega)
  have y15 : ((k : Int) == 15) = true := by simp; omega
  clear hk e14 e15
  go_enter func81, ntmps81
  go_wp2_with fail
  refine C0.out.mono ?_
  rintro e w1 ⟨rfl, hb1⟩
  obtain ⟨c0, f0, X, hX, cX, hlX, hbX⟩ := late_box w w1 M hb1
  have CC := hid (CN.out X hbX cX hlX)
  have HBX := hid hbX
  clear CN C0 hb1 cX hlX hbX
  go_wp2_with fail
  refine CC.out.mono ?_
  rintro e w2 ⟨rfl, hb2⟩
  have HB2 : Hid (Bl w w2) := HBX.out.trans (hb2.mono HBX.out.size)
  clear CC hb2 HBX
  go_wp2_with fail
  go_ret
  exact ⟨by simp, HB2.out⟩
 by_cases e16 : k = 16
 case pos =>
  have y14 : ((k : Int) == 14) = false := bfn (by omega)
  have y15 : ((k : Int) == 15) = false := bfn (by omega)
  have y16 : ((k : Int) == 16) = true := by simp; omega
  clear hk e14 e15 e16
  go_enter func81, ntmps81
  go_wp2_with fail
  refine C0.out.mono ?_
  rintro e w1 ⟨rfl, hb1⟩
  obtain ⟨c0, f0, X, hX, cX, hlX, hbX⟩ := late_box w w1 M hb1
  have CC := hid (CN.out X hbX cX hlX)
  have HBX := hid hbX
  clear CN C0 hb1 cX hlX hbX
  go_wp2_with fail
  refine CC.out.mono ?_
  rintro e w2 ⟨rfl, hb2⟩
  have HB2 : Hid (Bl w w2) := HBX.out.trans (hb2.mono HBX.out.size)
  clear CC hb2 HBX
  go_wp2_with fail
  go_ret
  exact ⟨by simp, HB2.out⟩
 by_cases e17 : k = 17
 case pos =>
  have y14 : ((k : Int) == 14) = false := bfn (by omega)
  have y15 : ((k : Int) == 15) = false := bfn (by omega)
  have y16 : ((k : Int) == 16) = false := bfn (by omega)
  have y17 : ((k : Int) == 17) = true := by simp; omega
  clear hk e14 e15 e16 e17
  go_enter func81, ntmps81
  go_wp2_with fail
  refine C0.out.mono ?_
  rintro e w1 ⟨rfl, hb1⟩
  obtain ⟨c0, f0, X, hX, cX, hlX, hbX⟩ := late_box w w1 M hb1
  have CC := hid (CN.out X hbX cX hlX)
  have HBX := hid hbX
  clear CN C0 hb1 cX hlX hbX
  go_wp2_with fail
  refine CC.out.mono ?_
  rintro e w2 ⟨rfl, hb2⟩
  have HB2 : Hid (Bl w w2) := HBX.out.trans (hb2.mono HBX.out.size)
  clear CC hb2 HBX
  go_wp2_with fail
  go_ret
  exact ⟨by simp, HB2.out⟩
 by_cases e18 : k = 18
 case pos =>
  have y14 : ((k : Int) == 14) = false := bfn (by omega)
  have y15 : ((k : Int) == 15) = false := bfn (by omega)
  have y16 : ((k : Int) == 16) = false := bfn (by omega)
  have y17 : ((k : Int) == 17) = false := bfn (by omega)
  have y18 : ((k : Int) == 18) = true := by simp; omega
  clear hk e14 e15 e16 e17 e18
  go_enter func81, ntmps81
  go_wp2_with fail
  refine C0.out.mono ?_
  rintro e w1 ⟨rfl, hb1⟩
  obtain ⟨c0, f0, X, hX, cX, hlX, hbX⟩ := late_box w w1 M hb1
  have CC := hid (CN.out X hbX cX hlX)
  have HBX := hid hbX
  clear CN C0 hb1 cX hlX hbX
  go_wp2_with fail
  refine CC.out.mono ?_
  rintro e w2 ⟨rfl, hb2⟩
  have HB2 : Hid (Bl w w2) := HBX.out.trans (hb2.mono HBX.out.size)
  clear CC hb2 HBX
  go_wp2_with fail
  go_ret
  exact ⟨by simp, HB2.out⟩
 have y14 : ((k : Int) == 14) = false := bfn (by omega)
 have y15 : ((k : Int) == 15) = false := bfn (by omega)
 have y16 : ((k : Int) == 16) = false := bfn (by omega)
 have y17 : ((k : Int) == 17) = false := bfn (by omega)
 have y18 : ((k : Int) == 18) = false := bfn (by omega)
 have y19 : ((k : Int) == 19) = true := by simp; omega
 clear hk e14 e15 e16 e17 e18
 go_enter func81, ntmps81
 go_wp2_with fail
 refine C0.out.mono ?_
 rintro e w1 ⟨rfl, hb1⟩
 obtain ⟨c0, f0, X, hX, cX, hlX, hbX⟩ := late_box w w1 M hb1
 have CC := hid (CN.out X hbX cX hlX)
 have HBX := hid hbX
 clear CN C0 hb1 cX hlX hbX
 go_wp2_with fail
 refine CC.out.mono ?_
 rintro e w2 ⟨rfl, hb2⟩
 have HB2 : Hid (Bl w w2) := HBX.out.trans (hb2.mono HBX.out.size)
 clear CC hb2 HBX
 go_wp2_with fail
 go_ret
 exact ⟨by simp, HB2.out⟩
end Go.Proofs.YtfifphfihdhlaaaGreatDoor.Bd
