/- What Read answers. -/
import Derived.Test.YtgdjhkcllpkiiaaGreatDoorNaNb
import Derived.KernelRfl
namespace Go.Proofs.YtgdjhkcllpkiiaaGreatDoor
open Go.Shelf Go.RowKit Go.Lib
set_option linter.unusedVariables false
set_option linter.unusedSimpArgs false
attribute [local go_sem ↓] Go.wp_at_zero Go.wp_at_succ
def zc : List Value := [.int .u8 0, .int .u64 0, .int .u64 0, .int .u64 0, .int .i64 0, .int .i64 0, .int .i64 0, .string ⟨#[]⟩, .string ⟨#[]⟩, .int .i64 0, .int .i64 0, .int .i64 0, .slice none 0 0, .slice none 0 0, .slice none 0 0, .bool false, .slice none 0 0, .slice none 0 0, .slice none 0 0, .int .i64 0, .int .i64 0, .int .u8 0, .string ⟨#[]⟩, .int .u64 0, .int .u64 0, .int .i64 0, .slice none 0 0, .int .u8 0, .string ⟨#[]⟩, .int .u64 0, .int .u64 0, .int .i64 0, .slice none 0 0, .bool false, .int .i64 0, .slice none 0 0, .slice none 0 0, .int .u64 0, .bool false, .slice none 0 0, .string ⟨#[]⟩, .int .u64 0, .int .u64 0, .int .i64 0, .slice none 0 0, .slice none 0 0, .slice none 0 0]
theorem gi_of {α : Type} {rel : Rel α} {lo sz : Nat} {D : Nat → Prop} {W : World} {cl : List Value} {x : α} (cs : List Value) (h1 : cs.length = sz) (h2 : (cl.drop lo).take sz = cs) (h3 : rel D W cs x) : GI rel lo sz D W cl.toArray x := by
  refine ⟨cs, h1, fun j u hj => ?_, h3⟩
  have hjl : j < cs.length := (List.getElem?_eq_some_iff.1 hj).1
  have : ((cl.drop lo).take sz)[j]? = some u := by rw [h2]; exact hj
  rw [List.getElem?_take_of_lt (by omega), List.getElem?_drop] at this
  simpa using this
theorem i64z : I64 0 := by unfold I64; omega
theorem smz : small ⟨#[]⟩ := by show (0 : Nat) ≤ _; omega
/-- The message of nothing. -/
theorem zero_is (W : World) : MsgIs noB W zc.toArray mg0 := by
  have nl : ∀ {α : Type} (rel : Rel α) (s b : Nat), ListIs rel s b noB W (.slice none 0 0) ([] : List α) := fun rel s b => ListIs.nil rel s b noB W
  have sr : rSr noB W [.int .u8 0, .string ⟨#[]⟩, .int .u64 0, .int .u64 0, .int .i64 0, .slice none 0 0] sr0 := ⟨_, rfl, by show (0 : Nat) < 256; omega, smz, ⟨by show (0 : Nat) < _; omega, by show (0 : Nat) < _; omega⟩, i64z, nl _ _ _⟩
  exact ⟨rfl, rfl, by show (0 : Nat) < 256; omega,
    gi_of [.int .u64 0] rfl rfl ⟨rfl, by show (0 : Nat) < _; omega⟩,
    gi_of [.int .u64 0, .int .u64 0] rfl rfl ⟨rfl, by show (0 : Nat) < _; omega, by show (0 : Nat) < _; omega⟩,
    gi_of [.int .i64 0] rfl rfl ⟨rfl, i64z⟩, gi_of [.int .i64 0] rfl rfl ⟨rfl, i64z⟩, gi_of [.int .i64 0] rfl rfl ⟨rfl, i64z⟩,
    gi_of [.string ⟨#[]⟩, .string ⟨#[]⟩, .int .i64 0, .int .i64 0, .int .i64 0, .slice none 0 0, .slice none 0 0, .slice none 0 0, .bool false, .slice none 0 0, .slice none 0 0] rfl rfl ⟨_, _, _, _, _, rfl, smz, smz, i64z, i64z, i64z, nl _ _ _, nl _ _ _, nl _ _ _, nl _ _ _, nl _ _ _⟩,
    gi_of [.slice none 0 0] rfl rfl ⟨_, rfl, nl _ _ _⟩,
    gi_of [.int .i64 0, .int .i64 0, .int .u8 0, .string ⟨#[]⟩, .int .u64 0, .int .u64 0, .int .i64 0, .slice none 0 0, .int .u8 0, .string ⟨#[]⟩, .int .u64 0, .int .u64 0, .int .i64 0, .slice none 0 0, .bool false, .int .i64 0, .slice none 0 0] rfl rfl ⟨[.int .u8 0, .string ⟨#[]⟩, .int .u64 0, .int .u64 0, .int .i64 0, .slice none 0 0], [.int .u8 0, .string ⟨#[]⟩, .int .u64 0, .int .u64 0, .int .i64 0, .slice none 0 0], _, rfl, i64z, i64z, sr, sr, i64z, nl _ _ _⟩,
    gi_of [.slice none 0 0] rfl rfl ⟨_, rfl, nl _ _ _⟩,
    gi_of [.int .u64 0] rfl rfl ⟨rfl, by show (0 : Nat) < _; omega⟩,
    gi_of [.bool false] rfl rfl ⟨rfl, trivial⟩,
    gi_of [.slice none 0 0] rfl rfl ⟨_, rfl, nl _ _ _⟩,
    gi_of [.string ⟨#[]⟩, .int .u64 0, .int .u64 0, .int .i64 0, .slice none 0 0] rfl rfl ⟨_, rfl, smz, ⟨by show (0 : Nat) < _; omega, by show (0 : Nat) < _; omega⟩, i64z, nl _ _ _⟩,
    gi_of [.slice none 0 0] rfl rfl ⟨_, rfl, nl _ _ _⟩,
    gi_of [.slice none 0 0] rfl rfl ⟨_, rfl, nl _ _ _⟩⟩
/-- What comes out of a reader. -/
def rd1 (s : ByteArray) : Mg × St := msgP (.rd s false) mg0
def St.rest : St → ByteArray
  | .inr (.inr (r, _)) => r
  | _ => ⟨#[]⟩
def rdOk (s : ByteArray) : Bool := !(decide (65536 < s.size)) && (!(failedP (rd1 s).2) && (rd1 s).2.rest.size == 0)
def rdE (s : ByteArray) : Int := if rdOk s then 0 else 11
def rdM (s : ByteArray) : Mg := if rdOk s then (rd1 s).1 else mg0
/-- What is answered. -/
def RdP (s : ByteArray) (w : World) (e : Ending) (w' : World) : Prop := ∃ (cl : List Value) (N : Nat → Prop), e = .returned (.tuple #[.agg cl.toArray, .int .i64 (rdE s)]) ∧ cl.length = 47 ∧ (∀ b, N b → w.heap.size ≤ b ∧ b < w'.heap.size) ∧ MsgIs N w' cl.toArray (rdM s) ∧ Below w.heap.size w w'
/-- .. and that its memory is free. -/
def RdU (s : ByteArray) (w : World) (e : Ending) (w' : World) : Prop := ∃ (cl : List Value) (N : Nat → Prop), e = .returned (.tuple #[.agg cl.toArray, .int .i64 (rdE s)]) ∧ cl.length = 47 ∧ (∀ b, N b → w.heap.size ≤ b ∧ b < w'.heap.size ∧ Unf w' b) ∧ MsgIs N w' cl.toArray (rdM s) ∧ Below w.heap.size w w'
theorem RdU.rd {s : ByteArray} {w : World} {e : Ending} {w' : World} (h : RdU s w e w') : RdP s w e w' := by
  obtain ⟨cl, N, h1, h2, h3, h4, h5⟩ := h
  exact ⟨cl, N, h1, h2, fun b hb => ⟨(h3 b hb).1, (h3 b hb).2.1⟩, h4, h5⟩
theorem setCell_any (w : World) (b k : Nat) (v : Value) : (w.setCell ⟨b, k, none⟩ v).heap.size = w.heap.size ∧ (w.setCell ⟨b, k, none⟩ v).os = w.os ∧ (w.setCell ⟨b, k, none⟩ v).tape = w.tape ∧ (w.setCell ⟨b, k, none⟩ v).output = w.output ∧ ∀ j, j ≠ b → (w.setCell ⟨b, k, none⟩ v).heap[j]? = w.heap[j]? := by
  unfold World.setCell
  have hm : ∀ (f : Obj → Obj) (j : Nat), j ≠ b → (w.heap.modify b f)[j]? = w.heap[j]? := fun f j hj => by
    rw [Array.getElem?_modify, if_neg (fun e => hj e.symm)]
  split
  · exact ⟨by simp, rfl, rfl, rfl, fun j hj => hm _ j hj⟩
  · exact ⟨by simp, rfl, rfl, rfl, fun j hj => hm _ j hj⟩
theorem setCells_any (b : Nat) : ∀ (vs : List Value) (o : Nat) (w : World), (w.setCells b o vs).heap.size = w.heap.size ∧ (w.setCells b o vs).os = w.os ∧ (w.setCells b o vs).tape = w.tape ∧ (w.setCells b o vs).output = w.output ∧ ∀ j, j ≠ b → (w.setCells b o vs).heap[j]? = w.heap[j]?
  | [], o, w => ⟨rfl, rfl, rfl, rfl, fun _ _ => rfl⟩
  | v :: vs, o, w => by
    obtain ⟨a1, a2, a3, a4, a5⟩ := setCell_any w b o v
    obtain ⟨b1, b2, b3, b4, b5⟩ := setCells_any b vs (o + 1) (w.setCell ⟨b, o, none⟩ v)
    exact ⟨b1.trans a1, b2.trans a2, b3.trans a3, b4.trans a4, fun j hj => (b5 j hj).trans (a5 j hj)⟩
/-- A message is put into a box. -/
theorem put_box {W : World} {g : Nat} {c : Array Value} (hg : W.heap[g]? = some (.cells c 49 (0, 0))) (hc : c.size = 47) (cl : List Value) (hl : cl.length = 47) :
    W.there g 0 47 ∧ ∃ W', W.setCells g 0 cl = W' ∧ W'.rangeAt g 0 cl ∧ W'.heap.size = W.heap.size ∧ Kept (fun b => b ≠ g) W W' := by
  have ht : W.there g 0 47 := fun j hj => by
    rw [Nat.zero_add]
    refine ⟨?_, frozen_zero hg j⟩
    rw [cellR hg (Array.getElem?_eq_getElem (by omega : j < c.size))]
    rfl
  obtain ⟨a1, a2, a3, a4, a5⟩ := setCells_any g cl 0 W
  exact ⟨ht, _, rfl, World.rangeAt_setCells_same W g 0 cl (by rw [hl]; exact ht), a1, ⟨a2, a3, a4, by omega, fun b hb => a5 b hb⟩⟩
theorem gi_one {α : Type} {rel : Rel α} {lo sz : Nat} {D : Nat → Prop} {W : World} {cur : Array Value} {x : α} (h : GI rel lo sz D W cur x) (hr : ∀ cs, rel D W cs x → ∀ v ∈ cs, v.oneCell' = true) : ∀ k v, lo ≤ k → k < lo + sz → cur[k]? = some v → v.oneCell' = true := by
  obtain ⟨cs, h1, h2, h3⟩ := h
  intro k v hk hl hv
  have hj : k - lo < cs.length := by omega
  have := h2 (k - lo) cs[k - lo] (List.getElem?_eq_getElem hj)
  rw [show lo + (k - lo) = k by omega, hv] at this
  rw [Option.some.inj this]
  exact hr cs h3 _ (List.getElem_mem hj)
theorem ls_one {α : Type} {rel : Rel α} {s b : Nat} {D : Nat → Prop} {W : World} {v : Value} {xs : List α} (h : ListIs rel s b D W v xs) : v.oneCell' = true := by
  obtain ⟨q, c, rfl, _⟩ := h
  rfl
theorem msg_one {D : Nat → Prop} {W : World} {cur : Array Value} {x : Mg} (h : MsgIs D W cur x) : cur.all (·.oneCell') = true := by
  have key : ∀ (k : Nat) (v : Value), cur[k]? = some v → v.oneCell' = true := by
    intro k v hv
    have hk : k < 47 := by have := (Array.getElem?_eq_some_iff.1 hv).1; have := h.size; omega
    have sr : ∀ {cs : List Value} {y : Sr}, rSr D W cs y → ∀ v ∈ cs, v.oneCell' = true := by
      rintro cs y ⟨u, rfl, _, _, _, _, hl⟩ v hv
      simp at hv
      rcases hv with rfl | rfl | rfl | rfl | rfl | rfl
      all_goals first | rfl | exact ls_one hl
    by_cases k0 : k = 0
    · subst k0; rw [h.kc] at hv; rw [← Option.some.inj hv]; rfl
    by_cases k1 : k < 2
    · exact gi_one h.bt (by rintro cs ⟨rfl, _⟩ v hv; simp at hv; subst hv; rfl) k v (by omega) (by omega) hv
    by_cases k2 : k < 4
    · exact gi_one h.qr (by rintro cs ⟨rfl, _⟩ v hv; simp at hv; rcases hv with rfl | rfl <;> rfl) k v (by omega) (by omega) hv
    by_cases k3 : k < 5
    · exact gi_one h.at_ (by rintro cs ⟨rfl, _⟩ v hv; simp at hv; subst hv; rfl) k v (by omega) (by omega) hv
    by_cases k4 : k < 6
    · exact gi_one h.fr (by rintro cs ⟨rfl, _⟩ v hv; simp at hv; subst hv; rfl) k v (by omega) (by omega) hv
    by_cases k5 : k < 7
    · exact gi_one h.tq (by rintro cs ⟨rfl, _⟩ v hv; simp at hv; subst hv; rfl) k v (by omega) (by omega) hv
    by_cases k6 : k < 18
    · exact gi_one h.bd (by
        rintro cs ⟨v1, v2, v3, v4, v5, rfl, _, _, _, _, _, l1, l2, l3, l4, l5⟩ v hv
        simp at hv
        rcases hv with rfl | rfl | rfl | rfl | rfl | rfl | rfl | rfl | rfl | rfl | rfl
        all_goals first | rfl | exact ls_one l1 | exact ls_one l2 | exact ls_one l3 | exact ls_one l4 | exact ls_one l5) k v (by omega) (by omega) hv
    by_cases k7 : k < 19
    · exact gi_one h.ct (by rintro cs ⟨u, rfl, hl⟩ v hv; simp at hv; subst hv; exact ls_one hl) k v (by omega) (by omega) hv
    by_cases k8 : k < 36
    · exact gi_one h.fg (by
        rintro cs ⟨c1, c2, u, rfl, _, _, s1, s2, _, hl⟩ v hv
        simp only [List.mem_append, List.mem_cons, List.not_mem_nil, or_false] at hv
        rcases hv with (((rfl | rfl) | hv) | hv) | (rfl | rfl | rfl)
        · rfl
        · rfl
        · exact sr s1 v hv
        · exact sr s2 v hv
        · rfl
        · rfl
        · exact ls_one hl) k v (by omega) (by omega) hv
    by_cases k9 : k < 37
    · exact gi_one h.nd (by rintro cs ⟨u, rfl, hl⟩ v hv; simp at hv; subst hv; exact ls_one hl) k v (by omega) (by omega) hv
    by_cases ka : k < 38
    · exact gi_one h.sq (by rintro cs ⟨rfl, _⟩ v hv; simp at hv; subst hv; rfl) k v (by omega) (by omega) hv
    by_cases kb : k < 39
    · exact gi_one h.ls (by rintro cs ⟨rfl, _⟩ v hv; simp at hv; subst hv; rfl) k v (by omega) (by omega) hv
    by_cases kc : k < 40
    · exact gi_one h.rw_ (by rintro cs ⟨u, rfl, hl⟩ v hv; simp at hv; subst hv; exact ls_one hl) k v (by omega) (by omega) hv
    by_cases kd : k < 45
    · exact gi_one h.fh (by
        rintro cs ⟨u, rfl, _, _, _, hl⟩ v hv
        simp at hv
        rcases hv with rfl | rfl | rfl | rfl | rfl
        all_goals first | rfl | exact ls_one hl) k v (by omega) (by omega) hv
    by_cases ke : k < 46
    · exact gi_one h.fw (by rintro cs ⟨u, rfl, hl⟩ v hv; simp at hv; subst hv; exact ls_one hl) k v (by omega) (by omega) hv
    · exact gi_one h.cm (by rintro cs ⟨u, rfl, hl⟩ v hv; simp at hv; subst hv; exact ls_one hl) k v (by omega) (by omega) hv
  exact Array.all_eq_true_iff_forall_mem.2 (fun v hv => by
    obtain ⟨k, hk, e⟩ := Array.getElem_of_mem hv
    exact key k v (by rw [Array.getElem?_eq_getElem hk, e]))
theorem zc_one : (zc.toArray).all (·.oneCell') = true := by kernel_rfl
theorem info49z : (Tryz.prog.info? 49).map (·.size) = some zc.toArray.size := by kernel_rfl
set_option maxRecDepth 100000 in
set_option maxHeartbeats 4000000 in
theorem read_longU (s : ByteArray) (w : World) (hs : 65536 < s.size) : Calls Tryz.prog 10 #[.string s] w fun e w' => RdU s w e w' := by
  have HOK : Hid (rdOk s = false) := by show _ = _; unfold rdOk; simp [hs]
  have z0 : (65536 : Int) < (s.size : Int) := by omega
  obtain ⟨W0, hW0⟩ : ∃ W0, w.alloc (.cells zc.toArray 49) = W0 := ⟨_, rfl⟩
  have hB : Below w.heap.size w W0 := by rw [← hW0]; exact (Below.refl _ _).alloc (Nat.le_refl _) _
  have hgz : W0.heap[w.heap.size]? = some (.cells zc.toArray 49 (0, 0)) := by rw [← hW0]; exact heap_alloc_new w _
  obtain ⟨ht, WS, hWS, hrs, hss, hks⟩ := put_box hgz rfl zc rfl
  have HTH : Hid (W0.there w.heap.size 0 47) := ht
  have HP : Hid (Below w.heap.size w WS ∧ MsgIs noB WS zc.toArray mg0) := ⟨⟨hks.os.trans hB.os, hks.tape.trans hB.tape, hks.output.trans hB.output, by have := hB.size; omega, fun b hb => (hks.block b (by show b ≠ w.heap.size; omega)).trans (hB.block b hb)⟩, zero_is WS⟩
  have hres : (loadVar 49 ⟨w.heap.size, 0, none⟩).run Tryz.prog WS = .ok (.agg zc.toArray) WS := run_loadVar_mid WS w.heap.size 0 49 zc _ hrs Tryz.underlying49 rfl size49
  have HRS : Hid ((loadVar 49 ⟨w.heap.size, 0, none⟩).run Tryz.prog WS = .ok (.agg zc.toArray) WS) := hres
  have HWS : Hid (W0.setCells w.heap.size 0 zc.toArray.toList = WS) := hWS
  clear hs hB hgz ht hWS hrs hss hks hres
  unfold zc at hW0
  go_enter Tryz.func10, Tryz.ntmps10
  go_wp2_with (refine wpList_store_mid rfl 49 _ _ rfl w.heap.size 0 zc.toArray rfl rfl HTH.out info49z zc_one ?_; rw [HWS.out])
  refine bodyPost_ret (v := .tuple #[.agg zc.toArray, .int .i64 11]) (by simp only [results, Tryz.results10]; simp [asAddr, HRS.out]) rfl ?_
  exact ⟨zc, noB, by unfold rdE; rw [HOK.out]; rfl, rfl, fun b hb => hb.elim, by unfold rdM; rw [HOK.out]; exact HP.out.2, HP.out.1⟩
set_option maxRecDepth 100000 in
set_option maxHeartbeats 4000000 in
theorem read_shortU (s : ByteArray) (w : World) (hs : s.size ≤ 65536) (hT : Lib.Utf8Tabs 0 1 w) (h2 : 1 < w.heap.size) : Calls Tryz.prog 10 #[.string s] w fun e w' => RdU s w e w' := by
  have z0 : ¬ (65536 : Int) < (s.size : Int) := by omega
  obtain ⟨W0, hW0⟩ : ∃ W0, ((w.alloc (.cells zc.toArray 49)).alloc (.cells #[Value.bool false, Value.string s] 96)).alloc (.cells zc.toArray 49) = W0 := ⟨_, rfl⟩
  have hs0 : W0.heap.size = w.heap.size + 3 := by rw [← hW0]; simp
  have hB0 : Below w.heap.size w W0 := by rw [← hW0]; exact (((Below.refl _ _).alloc (Nat.le_refl _) _).alloc (by simp) _).alloc (by simp; omega) _
  have hb0 : W0.heap[w.heap.size]? = some (.cells zc.toArray 49 (0, 0)) := by
    rw [← hW0, hao _ _ _ (by simp; omega), hao _ _ _ (by simp)]; exact heap_alloc_new w _
  have hb1 : W0.heap[w.heap.size + 1]? = some (.cells #[Value.bool false, Value.string s] 96 (0, 0)) := by
    rw [← hW0, hao _ _ _ (by simp)]
    have := heap_alloc_new (w.alloc (.cells zc.toArray 49)) (.cells #[Value.bool false, Value.string s] 96)
    simpa using this
  have hb2 : W0.heap[w.heap.size + 1 + 1]? = some (.cells zc.toArray 49 (0, 0)) := by
    rw [← hW0]
    have := heap_alloc_new ((w.alloc (.cells zc.toArray 49)).alloc (.cells #[Value.bool false, Value.string s] 96)) (.cells zc.toArray 49)
    simpa using this
  obtain ⟨K, hK⟩ : ∃ K : Nat → Prop, (fun b => b < w.heap.size + 1) = K := ⟨_, rfl⟩
  have kin : ∀ b, b < w.heap.size + 1 → K b := fun b hb => by rw [← hK]; exact hb
  have kout : ∀ b, K b → b < w.heap.size + 1 := fun b hb => by rw [← hK] at hb; exact hb
  clear hK
  have htb : Tabs K W0 := ⟨kin _ (by omega), kin _ (by omega), Utf8Tabs.later hT h2 hB0⟩
  have hp0 : PortIs (fun b => K b ∨ b = w.heap.size + 1 + 1) W0 94 (w.heap.size + 1) (.rd s false) := by
    refine ⟨fun e => ?_, fun b hb => ?_, fun _ b hb hpb => ?_, rfl, hs, hb1⟩
    · rcases e with e | e
      · have := kout _ e; omega
      · omega
    · rcases hb with hb | hb
      · have := kout _ hb; omega
      · omega
    · rcases hb with hb | hb
      · have := kout _ hb; omega
      · rw [hb]; exact Unf.zero hb2
  have C1 : Hid (Calls Tryz.prog 22 #[.agg #[.iface 94 (.pointer (some ⟨w.heap.size + 1, 0, none⟩))], .pointer (some ⟨w.heap.size + 1 + 1, 0, none⟩)] W0 fun e w' => e = .returned (.tuple #[]) ∧ ∃ (N : Nat → Prop) (cur' : Array Value), (∀ b, N b → W0.heap.size ≤ b) ∧ w'.heap[w.heap.size + 1 + 1]? = some (.cells cur' 49 (0, 0)) ∧ MsgIs (fun b => noB b ∨ N b) w' cur' (rd1 s).1 ∧ PortIs (fun b => (K b ∨ N b) ∨ b = w.heap.size + 1 + 1) w' 94 (w.heap.size + 1) (rd1 s).2 ∧ Kept K W0 w') :=
    message_any 94 (w.heap.size + 1) (w.heap.size + 1 + 1) K noB W0 (.rd s false) zc.toArray mg0 htb (fun e => by have := kout _ e; omega) hb2 (fun b hb => hb.elim) (zero_is W0) hp0 (by simp [St.len])
  have HK : Hid (∀ b, b < w.heap.size + 1 → K b) := kin
  have HB0 : Hid (Below w.heap.size w W0) := hB0
  have HS0 : Hid (W0.heap.size = w.heap.size + 3) := hs0
  have HG0 : Hid (W0.heap[w.heap.size]? = some (.cells zc.toArray 49 (0, 0))) := hb0
  have HZ : Hid (s.size ≤ 65536) := hs
  clear htb hb0 hb1 hb2 hp0 kin kout hT h2 hB0 hs0 hs
  unfold zc at hW0
  go_enter Tryz.func10, Tryz.ntmps10
  go_wp2_with fail
  refine C1.out.mono ?_
  rintro e w1 ⟨rfl, N, cur', hN, hbm, hmi, hpo, hk1⟩
  obtain ⟨r1, f1, hst1⟩ : ∃ r1 f1, (rd1 s).2 = .rd r1 f1 := by
    have := hpo.is
    cases h : (rd1 s).2 using St.three with
    | wr b f => rw [h] at this; exact absurd this.1 (by decide)
    | bl f => rw [h] at this; exact absurd this.1 (by decide)
    | rd r f => exact ⟨r, f, rfl⟩
  have HST : Hid ((rd1 s).2 = .rd r1 f1) := hst1
  rw [hst1] at hpo
  have hpi := hpo.is.2.2
  have x1 := cellR (k := 1) hpi rfl
  have C2 : Hid (Calls Tryz.prog 25 #[.pointer (some ⟨w.heap.size + 1, 0, none⟩)] w1 fun e w' => e = .returned (.bool f1) ∧ w' = w1) := failed_same _ 94 _ _ w1 hpo
  have hg1 : w1.heap[w.heap.size]? = some (.cells zc.toArray 49 (0, 0)) := by rw [hk1.block _ (HK.out _ (by omega))]; exact HG0.out
  have hB1 : Below w.heap.size w w1 := ((Kept.of_below HB0.out (fun _ h => h)).trans (hk1.less fun b hb => HK.out b (by have hb : b < w.heap.size := hb; omega))).below
  have hcl : cur'.toList.length = 47 := by simpa using hmi.size
  have hone : cur'.all (·.oneCell') = true := msg_one hmi
  have hNl : ∀ b, N b → w.heap.size ≤ b ∧ b < w1.heap.size := fun b hb => ⟨by have := hN b hb; have := HS0.out; omega, hpo.lt b (.inl (.inr hb))⟩
  have hNu : ∀ b, N b → Unf w1 b := fun b hb => hpo.unf rfl b (.inl (.inr hb)) (by have := hN b hb; have := HS0.out; omega)
  have hNs : ∀ b, N b → b ≠ w.heap.size := fun b hb => by have := hN b hb; have := HS0.out; omega
  have hrm : w1.rangeAt (w.heap.size + 1 + 1) 0 cur'.toList := fun j v hv => by
    rw [Nat.zero_add]
    exact cellR hbm (by simpa using hv)
  obtain ⟨cl, hcl2⟩ : ∃ cl, cur'.toList = cl := ⟨_, rfl⟩
  have hca : cur' = cl.toArray := by rw [← hcl2]
  subst hca
  obtain ⟨ht, WZ, hWZ, hrz, hsz, hkz⟩ := put_box hg1 rfl zc rfl
  obtain ⟨_, WS, hWS, hrs, hss, hks⟩ := put_box hg1 rfl cl (by simpa using hcl)
  have HTH : Hid (w1.there w.heap.size 0 47) := ht
  have HCL : Hid (cl.length = 47) := by show _ = _; simpa using hcl
  have HTL : Hid (w1.there w.heap.size 0 cl.toArray.size) := by show w1.there _ _ _; rw [show cl.toArray.size = 47 by simpa using hcl]; exact ht
  have HRZ : Hid ((loadVar 49 ⟨w.heap.size, 0, none⟩).run Tryz.prog WZ = .ok (.agg zc.toArray) WZ) := run_loadVar_mid WZ w.heap.size 0 49 zc _ hrz Tryz.underlying49 rfl size49
  have HRS : Hid ((loadVar 49 ⟨w.heap.size, 0, none⟩).run Tryz.prog WS = .ok (.agg cl.toArray) WS) := run_loadVar_mid WS w.heap.size 0 49 cl _ hrs Tryz.underlying49 rfl (by rw [HCL.out]; exact size49)
  have HRM : Hid (w1.rangeAt (w.heap.size + 1 + 1) 0 cl) := by show w1.rangeAt _ _ _; simpa using hrm
  have HI : Hid ((Tryz.prog.info? 49).map (·.size) = some cl.length) := by show _ = _; rw [HCL.out]; exact size49
  have HIA : Hid ((Tryz.prog.info? 49).map (·.size) = some cl.toArray.size) := by show _ = _; rw [show cl.toArray.size = 47 by simpa using hcl]; exact size49
  have HON : Hid (cl.toArray.all (·.oneCell') = true) := hone
  have HWZ : Hid (w1.setCells w.heap.size 0 zc.toArray.toList = WZ) := hWZ
  have HWS : Hid (w1.setCells w.heap.size 0 cl.toArray.toList = WS) := by show _ = _; rw [← hWS]
  have HPZ : Hid (Below w.heap.size w WZ ∧ MsgIs noB WZ zc.toArray mg0) := ⟨⟨hkz.os.trans hB1.os, hkz.tape.trans hB1.tape, hkz.output.trans hB1.output, by have := hB1.size; omega, fun b hb => (hkz.block b (by show b ≠ w.heap.size; omega)).trans (hB1.block b hb)⟩, zero_is WZ⟩
  have HPS : Hid (Below w.heap.size w WS ∧ MsgIs N WS cl.toArray (rd1 s).1 ∧ (∀ b, N b → w.heap.size ≤ b ∧ b < WS.heap.size ∧ Unf WS b)) := ⟨⟨hks.os.trans hB1.os, hks.tape.trans hB1.tape, hks.output.trans hB1.output, by have := hB1.size; omega, fun b hb => (hks.block b (by show b ≠ w.heap.size; omega)).trans (hB1.block b hb)⟩, hmi.keep (fun b hb => hb.elim (fun h => h.elim) id) (hks.less fun b hb => hb.elim (fun h => h.elim) (fun h => hNs b h)), fun b hb => ⟨(hNl b hb).1, by rw [hss]; exact (hNl b hb).2, (hNu b hb).of_block (hks.block b (hNs b hb))⟩⟩
  clear hN hbm hmi hpo hk1 C1 hst1 hpi hg1 hB1 hcl hone hNl hNu hNs hrm hcl2 ht hWZ hrz hsz hkz hWS hrs hss hks
  cases f1 with
  | true =>
    have HOK : Hid (rdOk s = false) := by show _ = _; unfold rdOk; rw [HST.out]; simp [failedP]
    go_wp2_with fail
    refine C2.out.mono ?_
    rintro e w2 ⟨rfl, rfl⟩
    go_wp2_with (refine wpList_store_mid rfl 49 _ _ rfl w.heap.size 0 zc.toArray rfl rfl HTH.out info49z zc_one ?_; rw [HWZ.out])
    refine bodyPost_ret (v := .tuple #[.agg zc.toArray, .int .i64 11]) (by simp only [results, Tryz.results10]; simp [asAddr, HRZ.out]) rfl ?_
    exact ⟨zc, noB, by unfold rdE; rw [HOK.out]; rfl, rfl, fun b hb => hb.elim, by unfold rdM; rw [HOK.out]; exact HPZ.out.2, HPZ.out.1⟩
  | false =>
    by_cases hr : r1.size = 0
    · have HOK : Hid (rdOk s = true) := by
        show _ = _
        unfold rdOk
        rw [HST.out]
        have := HZ.out
        simp [failedP, St.rest, hr]
        omega
      obtain rfl : r1 = ⟨#[]⟩ := by
        cases r1 with
        | mk a => rw [show a = #[] from Array.eq_empty_of_size_eq_zero hr]
      clear hr
      go_wp2_with fail
      refine C2.out.mono ?_
      rintro e w2 ⟨rfl, rfl⟩
      go_wp2_with (first | (refine wpList_load_mid rfl 49 _ rfl (w.heap.size + 1 + 1) 0 rfl cl _ HRM.out Tryz.underlying49 rfl HI.out ?_) | (refine wpList_store_mid rfl 49 _ _ rfl w.heap.size 0 cl.toArray rfl rfl HTL.out HIA.out HON.out ?_; rw [HWS.out]))
      refine bodyPost_ret (v := .tuple #[.agg cl.toArray, .int .i64 0]) (by simp only [results, Tryz.results10]; simp [asAddr, HRS.out]) rfl ?_
      exact ⟨cl, N, by unfold rdE; rw [HOK.out]; rfl, HCL.out, HPS.out.2.2, by unfold rdM; rw [HOK.out]; exact HPS.out.2.1, HPS.out.1⟩
    · have HOK : Hid (rdOk s = false) := by
        show _ = _
        unfold rdOk
        rw [HST.out]
        simp [failedP, St.rest, hr]
      have hne : (r1.toList == (⟨#[]⟩ : ByteArray).toList) = false := by
        rw [beq_eq_false_iff_ne]
        intro e
        apply hr
        have h1 := congrArg List.length e
        rw [Lib.toList_data, Lib.toList_data] at h1
        simpa using h1
      have hne2 : (r1.toList == []) = false := by rw [Lib.toList_data (⟨#[]⟩ : ByteArray)] at hne; exact hne
      clear hr
      go_wp2_with fail
      refine C2.out.mono ?_
      rintro e w2 ⟨rfl, rfl⟩
      go_wp2_with (refine wpList_store_mid rfl 49 _ _ rfl w.heap.size 0 zc.toArray rfl rfl HTH.out info49z zc_one ?_; rw [HWZ.out])
      refine bodyPost_ret (v := .tuple #[.agg zc.toArray, .int .i64 11]) (by simp only [results, Tryz.results10]; simp [asAddr, HRZ.out]) rfl ?_
      exact ⟨zc, noB, by unfold rdE; rw [HOK.out]; rfl, rfl, fun b hb => hb.elim, by unfold rdM; rw [HOK.out]; exact HPZ.out.2, HPZ.out.1⟩
theorem read_long (s : ByteArray) (w : World) (hs : 65536 < s.size) : Calls Tryz.prog 10 #[.string s] w fun e w' => RdP s w e w' := (read_longU s w hs).mono fun _ _ h => h.rd
theorem read_short (s : ByteArray) (w : World) (hs : s.size ≤ 65536) (hT : Lib.Utf8Tabs 0 1 w) (h2 : 1 < w.heap.size) : Calls Tryz.prog 10 #[.string s] w fun e w' => RdP s w e w' := (read_shortU s w hs hT h2).mono fun _ _ h => h.rd
end Go.Proofs.YtgdjhkcllpkiiaaGreatDoor
/- What lives answers. -/
namespace Go.Proofs.YtgdjhkcllpkiiaaGreatDoor
open Go.Shelf Go.RowKit Go.Lib
set_option linter.unusedVariables false
set_option linter.unusedSimpArgs false
attribute [local go_sem ↓] Go.wp_at_zero Go.wp_at_succ
def bm : Mg := { mg0 with k := 1, bt := 300 }
def bc : List Value := [.int .u8 1, .int .u64 300] ++ zc.drop 2
theorem bm_is (W : World) : MsgIs noB W bc.toArray bm := by
  have h := zero_is W
  have hb : ∀ k, 2 ≤ k → bc.toArray[k]? = zc.toArray[k]? := fun k hk => by
    obtain ⟨j, rfl⟩ : ∃ j, k = j + 2 := ⟨k - 2, by omega⟩
    rfl
  have kr : Kept noB W W := Kept.refl _ _
  exact ⟨rfl, rfl, by show (1 : Nat) < 256; omega, gi_of [.int .u64 300] rfl rfl ⟨rfl, by show (300 : Nat) < _; omega⟩, h.qr.keep mVrs (fun k a _ => hb k (by omega)) (fun _ h => h) kr, h.at_.keep mInt (fun k a _ => hb k (by omega)) (fun _ h => h) kr, h.fr.keep mInt (fun k a _ => hb k (by omega)) (fun _ h => h) kr, h.tq.keep mInt (fun k a _ => hb k (by omega)) (fun _ h => h) kr, h.bd.keep mBnd (fun k a _ => hb k (by omega)) (fun _ h => h) kr, h.ct.keep mTbls (fun k a _ => hb k (by omega)) (fun _ h => h) kr, h.fg.keep mFrg (fun k a _ => hb k (by omega)) (fun _ h => h) kr, h.nd.keep mInts (fun k a _ => hb k (by omega)) (fun _ h => h) kr, h.sq.keep mNum (fun k a _ => hb k (by omega)) (fun _ h => h) kr, h.ls.keep mBoo (fun k a _ => hb k (by omega)) (fun _ h => h) kr, h.rw_.keep mRws (fun k a _ => hb k (by omega)) (fun _ h => h) kr, h.fh.keep mFh (fun k a _ => hb k (by omega)) (fun _ h => h) kr, h.fw.keep mRws (fun k a _ => hb k (by omega)) (fun _ h => h) kr, h.cm.keep mClms (fun k a _ => hb k (by omega)) (fun _ h => h) kr⟩
def t1 : ByteArray := ⟨#[1, 172, 2]⟩
def t2 : ByteArray := ⟨#[1, 172]⟩
theorem l1 : wrE bm = 0 := by kernel_rfl
theorem l2 : wrS bm = t1 := by kernel_rfl
theorem l3 : rdE t1 = 0 := by kernel_rfl
theorem l4 : (rdM t1).bt = 300 := by kernel_rfl
theorem l5 : rdE t2 = 11 := by kernel_rfl
theorem l6 : wrE mg0 = 11 := by kernel_rfl
/-- A message is put into a new box. -/
theorem new_box (W : World) (cl : List Value) (hl : cl.length = 47) : ∃ WA, W.alloc (.cells zc.toArray 49) = WA ∧ WA.there W.heap.size 0 cl.toArray.size ∧ ∃ WS, WA.setCells W.heap.size 0 cl.toArray.toList = WS ∧ WS.rangeAt W.heap.size 0 cl ∧ WS.heap.size = W.heap.size + 1 ∧ Below W.heap.size W WS := by
  refine ⟨_, rfl, ?_⟩
  have hg : (W.alloc (.cells zc.toArray 49)).heap[W.heap.size]? = some (.cells zc.toArray 49 (0, 0)) := heap_alloc_new W _
  obtain ⟨ht, WS, hWS, hrs, hss, hks⟩ := put_box hg rfl cl hl
  have hB : Below W.heap.size W (W.alloc (.cells zc.toArray 49)) := (Below.refl _ _).alloc (Nat.le_refl _) _
  refine ⟨by rw [show cl.toArray.size = 47 by simpa using hl]; exact ht, WS, by rw [← hWS], hrs, by rw [hss]; simp, ⟨hks.os.trans hB.os, hks.tape.trans hB.tape, hks.output.trans hB.output, by have := hB.size; omega, fun b hb => (hks.block b (by show b ≠ W.heap.size; omega)).trans (hB.block b hb)⟩⟩
set_option maxRecDepth 100000 in
set_option maxHeartbeats 4000000 in
theorem lives_any (w : World) (hT : Lib.Utf8Tabs 0 1 w) (h2 : 1 < w.heap.size) : Calls Tryz.prog 12 #[] w fun e w' => e = .returned (.bool true) ∧ Below w.heap.size w w' := by
  have HT : Hid (∀ W, Below w.heap.size w W → Lib.Utf8Tabs 0 1 W ∧ 1 < W.heap.size) := fun W hb => ⟨Utf8Tabs.later hT h2 hb, Nat.lt_of_lt_of_le h2 hb.size⟩
  have C1 : Hid (Calls Tryz.prog 8 #[.agg bc.toArray] w fun e w' => e = .returned (.tuple #[.string ⟨#[1, 172, 2]⟩, .int .i64 0]) ∧ Below w.heap.size w w') := by
    have := write_any bc.toArray noB bm w (fun b hb => hb.elim) hT h2 (bm_is w)
    rw [l1, l2] at this
    exact this
  have C2 : Hid (∀ W, Below w.heap.size w W → Calls Tryz.prog 10 #[.string ⟨#[1, 172, 2]⟩] W fun e w' => ∃ cl : List Value, e = .returned (.tuple #[.agg cl.toArray, .int .i64 0]) ∧ cl.length = 47 ∧ cl[1]? = some (.int .u64 300) ∧ cl.toArray.all (·.oneCell') = true ∧ Below w.heap.size w w') := fun W hb => by
    refine (read_short t1 W (by show (3 : Nat) ≤ _; omega) (HT.out W hb).1 (HT.out W hb).2).mono ?_
    rintro e w' ⟨cl, N, rfl, h1, h2, h3, h4⟩
    refine ⟨cl, by rw [l3], h1, ?_, msg_one h3, hb.trans (h4.mono hb.size)⟩
    obtain ⟨cs, k1, k2, k3, _⟩ := h3.bt
    have := k2 0 (.int .u64 ((rdM t1).bt : Int)) (by rw [k3]; rfl)
    rw [l4] at this
    simpa using this
  have C3 : Hid (∀ W, Below w.heap.size w W → Calls Tryz.prog 10 #[.string ⟨#[1, 172]⟩] W fun e w' => ∃ cl : List Value, e = .returned (.tuple #[.agg cl.toArray, .int .i64 11]) ∧ cl.length = 47 ∧ cl.toArray.all (·.oneCell') = true ∧ Below W.heap.size W w') := fun W hb => by
    refine (read_short t2 W (by show (2 : Nat) ≤ _; omega) (HT.out W hb).1 (HT.out W hb).2).mono ?_
    rintro e w' ⟨cl, N, rfl, h1, h2, h3, h4⟩
    exact ⟨cl, by rw [l5], h1, msg_one h3, h4⟩
  have C4 : Hid (∀ W, Below w.heap.size w W → Calls Tryz.prog 14 #[.agg zc.toArray] W fun e w' => e = .returned (.int .i64 11) ∧ Below w.heap.size w w') := fun W hb => by
    have := check8_any zc noB mg0 W (fun b hb => hb.elim) (HT.out W hb).1 (HT.out W hb).2 (zero_is W)
    rw [l6] at this
    exact this.mono fun e w' ⟨h1, h2⟩ => ⟨h1, hb.trans (h2.mono hb.size)⟩
  clear hT h2
  go_enter Tryz.func12, Tryz.ntmps12
  go_wp2_with fail
  refine C1.out.mono ?_
  rintro e w1 ⟨rfl, hb1⟩
  have C2' := C2.out w1 hb1
  clear C1 hb1
  go_wp2_with fail
  refine C2'.mono ?_
  rintro e w2 ⟨cl, rfl, hl, hc1, hone, hb2⟩
  obtain ⟨WA, hWA, hth, WS, hWS, hrs, hss, hbs⟩ := new_box w2 cl hl
  have HTH : Hid (WA.there w2.heap.size 0 cl.toArray.size) := hth
  have HWS : Hid (WA.setCells w2.heap.size 0 cl.toArray.toList = WS) := hWS
  have HI : Hid ((Tryz.prog.info? 49).map (·.size) = some cl.toArray.size) := by show _ = _; rw [show cl.toArray.size = 47 by simpa using hl]; exact size49
  have HON : Hid (cl.toArray.all (·.oneCell') = true) := hone
  have hbo : WS.cell? ⟨w2.heap.size, 1, none⟩ = some (.int .u64 300) := by have := hrs 1 _ hc1; simpa using this
  have HBO : Hid (WS.cell? ⟨w2.heap.size, 1, none⟩ = some (.int .u64 300)) := hbo
  have hB3 : Below w.heap.size w WS := hb2.trans (hbs.mono hb2.size)
  have HB3 : Hid (Below w.heap.size w WS) := hB3
  have C3' := C3.out WS hB3
  have HSS : Hid (WS.heap.size = w2.heap.size + 1) := hss
  clear C2 C2' C3 hth hWS hrs hss hbs hone hb2 hB3 hbo
  unfold zc at hWA
  go_wp2_with (refine wpList_store_mid rfl 49 _ _ rfl w2.heap.size 0 cl.toArray rfl rfl HTH.out HI.out HON.out ?_; rw [HWS.out])
  refine C3'.mono ?_
  rintro e w3 ⟨cl3, rfl, hl3, hone3, hb3⟩
  obtain ⟨WB, hWB, hth3, WT, hWT, hrt, hst, hbt⟩ := new_box w3 cl3 hl3
  have HTH3 : Hid (WB.there w3.heap.size 0 cl3.toArray.size) := hth3
  have HWT : Hid (WB.setCells w3.heap.size 0 cl3.toArray.toList = WT) := hWT
  have HI3 : Hid ((Tryz.prog.info? 49).map (·.size) = some cl3.toArray.size) := by show _ = _; rw [show cl3.toArray.size = 47 by simpa using hl3]; exact size49
  have HON3 : Hid (cl3.toArray.all (·.oneCell') = true) := hone3
  have hB4 : Below w.heap.size w WT := HB3.out.trans ((hb3.trans (hbt.mono hb3.size)).mono HB3.out.size)
  have hbo : WT.cell? ⟨w2.heap.size, 1, none⟩ = some (.int .u64 300) := by
    rw [(hb3.trans (hbt.mono hb3.size)).cell (p := ⟨w2.heap.size, 1, none⟩) (by have := HSS.out; show w2.heap.size < WS.heap.size; omega)]
    exact HBO.out
  have C4' := C4.out WT hB4
  clear C3' C4 hth3 hWT hrt hst hbt hone3 hb3 hB4
  unfold zc at hWB C4'
  go_wp2_with (refine wpList_store_mid rfl 49 _ _ rfl w3.heap.size 0 cl3.toArray rfl rfl HTH3.out HI3.out HON3.out ?_; rw [HWT.out])
  refine C4'.mono ?_
  rintro e w4 ⟨rfl, hb4⟩
  have HB4 : Hid (Below w.heap.size w w4) := hb4
  clear C4' hb4
  go_wp2_with fail
  go_ret
  exact ⟨rfl, HB4.out⟩
end Go.Proofs.YtgdjhkcllpkiiaaGreatDoor
