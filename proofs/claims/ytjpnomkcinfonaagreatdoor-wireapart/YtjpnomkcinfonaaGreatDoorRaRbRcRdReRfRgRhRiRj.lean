/- What is written is read again; what is cut short is not. -/
import Derived.Test.YtjpnomkcinfonaaGreatDoorNe
import Derived.Test.YtjpnomkcinfonaaGreatDoorNcNdOb
namespace Go.Proofs.YtjpnomkcinfonaaGreatDoor
set_option linter.unusedVariables false
set_option linter.unusedSimpArgs false
def ba (l : List UInt8) : ByteArray := ⟨l.toArray⟩
theorem ba_size (l : List UInt8) : (ba l).size = l.length := by simp [ba, ByteArray.size]
theorem ba_ext {a b : ByteArray} (h : a.data = b.data) : a = b := by cases a; cases b; simp_all
theorem ba_take (l : List UInt8) (n : Nat) : (ba l).extract 0 n = ba (l.take n) := ba_ext (by simp [ba, ByteArray.data_extract])
theorem ba_drop (l : List UInt8) (n : Nat) : (ba l).extract n (ba l).size = ba (l.drop n) := ba_ext (by
  rw [ba_size]
  simp only [ba, ByteArray.data_extract, List.extract_toArray, List.extract_eq_take_drop]
  rw [List.take_of_length_le (by simp)])
theorem ba_list (s : ByteArray) : ba s.data.toList = s := ba_ext (by simp [ba])
theorem oct_rd (c : UInt8) (r : List UInt8) (f : Bool) (k : Nat) : octP (.rd (ba (c :: r)) f) k = (c.toNat, .rd (ba r) f) := by
  simp only [octP]
  rw [if_neg (by rw [ba_size]; simp), ba_take, ba_drop]
  simp [ba]
theorem oct_nil (f : Bool) (k : Nat) : octP (.rd (ba []) f) k = (0, .rd (ba []) true) := by
  simp only [octP]
  rw [if_pos (by rw [ba_size]; simp)]
/-- What a function writes it reads again; cut short it fails. -/
def Trip {α : Type} (f : St → α → α × St) (dd ok : α → Prop) : Prop := ∀ b x, ok x → failedP (f (.wr b false) x).2 = false → ∃ t, f (.wr b false) x = (x, .wr (b ++ t) false) ∧ (∀ r d, dd d → f (.rd (ba (t ++ r)) false) d = (x, .rd (ba r) false)) ∧ (∀ p q d, dd d → q ≠ [] → p ++ q = t → failedP (f (.rd (ba p) false) d).2 = true)
def any {α : Type} : α → Prop := fun _ => True
theorem trip_oct : Trip octP any (fun k => k < 256) := fun b k hk hf => by
  refine ⟨[UInt8.ofNat k], rfl, fun r d _ => ?_, fun p q d _ hq hp => ?_⟩
  · show octP (.rd (ba (UInt8.ofNat k :: r)) false) d = _
    rw [oct_rd]
    simp
    omega
  · have hp0 : p = [] := by
      cases p with
      | nil => rfl
      | cons c p => simp at hp; exact absurd hp.2.2 hq
    subst hp0
    rw [oct_nil]
    rfl
theorem pow7 (i : Nat) : 2 ^ (7 * (i + 1)) = 128 * 2 ^ (7 * i) := by rw [Nat.mul_add, Nat.pow_add]; omega
theorem rn_vn : ∀ f i acc n r g, i + f = 9 → acc + n * 2 ^ (7 * i) < 18446744073709551616 → (0 < i → 0 < n) → rnF (f + 1) i acc (.rd (ba (vnF f n ++ r)) g) = (acc + n * 2 ^ (7 * i), .rd (ba r) g)
  | 0, i, acc, n, r, g, hi, hn, h0 => by
    have hi9 : i = 9 := by omega
    subst hi9
    have hn2 : n ≤ 1 := by
      have : (2 : Nat) ^ (7 * 9) = 9223372036854775808 := by decide
      omega
    have hnn := h0 (by omega)
    have h1 : n = 1 := by omega
    subst h1
    show rnF (0 + 1) 9 acc (.rd (ba (UInt8.ofNat 1 :: r)) g) = _
    simp only [rnF, oct_rd]
    have e1 : (UInt8.ofNat 1).toNat = 1 := rfl
    rw [e1, if_neg (by omega), if_neg (by omega)]
    rw [Nat.mod_eq_of_lt (by omega)]
  | f + 1, i, acc, n, r, g, hi, hn, h0 => by
    simp only [vnF]
    by_cases h : n < 128
    · rw [if_pos h]
      show rnF (f + 1 + 1) i acc (.rd (ba (UInt8.ofNat n :: r)) g) = _
      rw [rnF]
      simp only [oct_rd]
      have e1 : (UInt8.ofNat n).toNat = n := by simp; omega
      rw [e1, if_neg (by omega), if_neg (by omega), Nat.mod_eq_of_lt h, Nat.mod_eq_of_lt hn]
    · rw [if_neg h]
      show rnF (f + 1 + 1) i acc (.rd (ba (UInt8.ofNat (n % 128 + 128) :: (vnF f (n / 128) ++ r))) g) = _
      rw [rnF]
      simp only [oct_rd]
      have e1 : (UInt8.ofNat (n % 128 + 128)).toNat = n % 128 + 128 := by simp; omega
      have e2 : (n % 128 + 128) % 128 = n % 128 := by omega
      have e3 : n * 2 ^ (7 * i) = n % 128 * 2 ^ (7 * i) + n / 128 * 2 ^ (7 * (i + 1)) := by
        rw [pow7, ← Nat.mul_assoc, ← Nat.add_mul]
        congr 1
        omega
      rw [e1, if_pos (by omega), e2, Nat.mod_eq_of_lt (by omega), rn_vn f (i + 1) _ (n / 128) r g (by omega) (by omega) (fun _ => by omega)]
      rw [e3, Nat.add_assoc]
theorem vnF_ne (f n : Nat) : vnF f n ≠ [] := by
  cases f with
  | zero => simp [vnF]
  | succ f => simp only [vnF]; split <;> simp
theorem rn_bad : ∀ k i acc r, failedP (rnF k i acc (.rd r true)).2 = true := fun k i acc r => (rn_nice k i acc (.rd r true)).2 rfl
theorem rn_cut : ∀ f i acc n p q g, q ≠ [] → p ++ q = vnF f n → failedP (rnF (f + 1) i acc (.rd (ba p) g)).2 = true
  | f, i, acc, n, [], q, g, hq, hp => by
    rw [rnF]
    simp only [oct_nil]
    rw [if_neg (by omega)]
    split <;> rfl
  | 0, i, acc, n, c :: p, q, g, hq, hp => by
    simp [vnF] at hp
    exact absurd hp.2.2 hq
  | f + 1, i, acc, n, c :: p, q, g, hq, hp => by
    simp only [vnF] at hp
    by_cases h : n < 128
    · rw [if_pos h] at hp
      simp at hp
      exact absurd hp.2.2 hq
    · rw [if_neg h] at hp
      simp only [List.cons_append, List.cons.injEq] at hp
      obtain ⟨rfl, hp⟩ := hp
      rw [rnF]
      simp only [oct_rd]
      have e1 : (UInt8.ofNat (n % 128 + 128)).toNat = n % 128 + 128 := by simp; omega
      rw [e1, if_pos (by omega)]
      exact rn_cut f (i + 1) _ (n / 128) p q g hq hp
theorem trip_num : Trip numP any (fun n => n < 18446744073709551616) := fun b n hn hf => by
  refine ⟨vn n, rfl, fun r d _ => ?_, fun p q d _ hq hp => ?_⟩
  · have := rn_vn 9 0 0 n r false rfl (by omega) (by omega)
    simp only [Nat.zero_add, Nat.mul_zero, Nat.pow_zero, Nat.mul_one] at this
    exact this
  · exact rn_cut 9 0 0 n p q false hq hp
/-- Through another type. -/
def viaP {α β : Type} (to_ : α → β) (of : β → α) (h : St → β → β × St) : St → α → α × St := fun st x => (of (h st (to_ x)).1, (h st (to_ x)).2)
theorem trip_via {α β : Type} {to_ : α → β} {of : β → α} {h : St → β → β × St} {dd ok : β → Prop} {dd2 ok2 : α → Prop} (ht : Trip h dd ok) (hi : ∀ x, ok2 x → of (to_ x) = x) (hd : ∀ x, dd2 x → dd (to_ x)) (ho : ∀ x, ok2 x → ok (to_ x)) : Trip (viaP to_ of h) dd2 ok2 := fun b x hx hf => by
  obtain ⟨t, h1, h2, h3⟩ := ht b (to_ x) (ho x hx) hf
  refine ⟨t, ?_, fun r d hdd => ?_, fun p q d hdd hq hp => h3 p q (to_ d) (hd d hdd) hq hp⟩
  · show (of (h _ _).1, (h _ _).2) = _
    rw [h1, hi x hx]
  · show (of (h _ _).1, (h _ _).2) = _
    rw [h2 r (to_ d) (hd d hdd), hi x hx]
theorem trip_long : Trip longP any I64 := trip_via (to_ := zig) (of := zag) trip_num (fun x _ => zag_zig x) (fun _ _ => trivial) (fun x hx => zig_lt hx)
theorem split_cut {α : Type} {p q t s : List α} (h : p ++ q = t ++ s) (hq : q ≠ []) : (∃ q1, q1 ≠ [] ∧ p ++ q1 = t) ∨ ∃ p2, p = t ++ p2 ∧ p2 ++ q = s := by
  rcases List.append_eq_append_iff.1 h with ⟨a, h1, h2⟩ | ⟨a, h1, h2⟩
  · by_cases ha : a = []
    · subst ha
      right
      exact ⟨[], by simpa using h1.symm, by simpa using h2⟩
    · left
      exact ⟨a, ha, h1.symm⟩
  · right
    exact ⟨a, h1, h2.symm⟩
/-- One behind the other. -/
def seqP {α β : Type} (f : St → α → α × St) (g : St → β → β × St) : St → α × β → (α × β) × St := fun st x => (((f st x.1).1, (g (f st x.1).2 x.2).1), (g (f st x.1).2 x.2).2)
theorem nice_un {α : Type} {g : St → α → α × St} (h : Nice g) {st : St} {x : α} (hf : failedP (g st x).2 = false) : failedP st = false := by
  cases hs : failedP st with
  | false => rfl
  | true => rw [(h st x).2 hs] at hf; cases hf
theorem trip_seq {α β : Type} {f : St → α → α × St} {g : St → β → β × St} {d1 o1 : α → Prop} {d2 o2 : β → Prop} (hf : Trip f d1 o1) (hg : Trip g d2 o2) (hn : Nice g) : Trip (seqP f g) (fun x => d1 x.1 ∧ d2 x.2) (fun x => o1 x.1 ∧ o2 x.2) := fun b x hx he => by
  obtain ⟨t, a1, a2, a3⟩ := hf b x.1 hx.1 (nice_un hn he)
  have he2 : failedP (g (.wr (b ++ t) false) x.2).2 = false := by
    have : failedP (g (f (.wr b false) x.1).2 x.2).2 = false := he
    rwa [a1] at this
  obtain ⟨s, b1, b2, b3⟩ := hg (b ++ t) x.2 hx.2 he2
  refine ⟨t ++ s, ?_, fun r d hd => ?_, fun p q d hd hq hp => ?_⟩
  · show (((f _ _).1, (g (f _ _).2 _).1), (g (f _ _).2 _).2) = _
    rw [a1, b1, List.append_assoc]
  · show (((f _ _).1, (g (f _ _).2 _).1), (g (f _ _).2 _).2) = _
    rw [List.append_assoc, a2 (s ++ r) d.1 hd.1, b2 r d.2 hd.2]
  · show failedP (g (f _ _).2 _).2 = true
    rcases split_cut hp hq with ⟨q1, h1, h2⟩ | ⟨p2, rfl, h2⟩
    · exact (hn _ _).2 (a3 p q1 d.1 hd.1 h1 h2)
    · rw [a2 p2 d.1 hd.1]
      exact b3 p2 q d.2 hd.2 hq h2
theorem trip_less {α : Type} {f : St → α → α × St} {dd ok dd2 ok2 : α → Prop} (h : Trip f dd ok) (hd : ∀ x, dd2 x → dd x) (ho : ∀ x, ok2 x → ok x) : Trip f dd2 ok2 := fun b x hx hf => by
  obtain ⟨t, h1, h2, h3⟩ := h b x (ho x hx) hf
  exact ⟨t, h1, fun r d hdd => h2 r d (hd d hdd), fun p q d hdd hq hp => h3 p q d (hd d hdd) hq hp⟩
end Go.Proofs.YtjpnomkcinfonaaGreatDoor
/- .. through texts, flags, lists and parts. -/
namespace Go.Proofs.YtjpnomkcinfonaaGreatDoor
set_option linter.unusedVariables false
set_option linter.unusedSimpArgs false
theorem trip_flag : Trip flagP any any := fun b x _ hf => by
  have hk : (if x then 1 else 0 : Nat) < 256 := by split <;> omega
  obtain ⟨t, h1, h2, h3⟩ := trip_oct b (if x then 1 else 0) hk (by
    cases hs : failedP (octP (.wr b false) (if x then 1 else 0)).2 with
    | false => rfl
    | true =>
      have : failedP (if 1 < (octP (.wr b false) (if x then 1 else 0)).1 then failP (octP (.wr b false) (if x then 1 else 0)).2 else (octP (.wr b false) (if x then 1 else 0)).2) = false := hf
      rw [if_neg (by show ¬ 1 < (if x then 1 else 0 : Nat); split <;> omega), hs] at this
      cases this)
  refine ⟨t, ?_, fun r d _ => ?_, fun p q d _ hq hp => ?_⟩
  · simp only [flagP, h1]
    cases x <;> rfl
  · simp only [flagP, h2 r (if d then 1 else 0) trivial]
    cases x <;> rfl
  · have := h3 p q (if d then 1 else 0) trivial hq hp
    exact (if_nice (c := 1 < (octP (.rd (ba p) false) (if d then 1 else 0)).1) ⟨rfl, fun h => h⟩).2 this
theorem take_bad (r : ByteArray) (n : Nat) : failedP (takeP r true n).2 = true := by unfold takeP; split <;> rfl
theorem trip_txt : Trip txtP any any := fun b s _ hf => by
  have hs : ¬ 2048 < s.size := fun h => by simp only [txtP] at hf; rw [if_pos h] at hf; simp [failedP] at hf
  refine ⟨vn s.size ++ s.data.toList, ?_, fun r d _ => ?_, fun p q d _ hq hp => ?_⟩
  · simp only [txtP]; rw [if_neg hs, List.append_assoc]
  · have h1 := rn_vn 9 0 0 s.size (s.data.toList ++ r) false rfl (by omega) (by omega)
    simp only [Nat.zero_add, Nat.mul_zero, Nat.pow_zero, Nat.mul_one] at h1
    have h2 : rnF 10 0 0 (.rd (ba (vn s.size ++ s.data.toList ++ r)) false) = (s.size, .rd (ba (s.data.toList ++ r)) false) := by rw [List.append_assoc]; exact h1
    simp only [txtP, h2]
    rw [if_neg hs]
    unfold takeP
    have hl : s.data.toList.length = s.size := by simp
    rw [if_neg (by rw [ba_size, List.length_append]; omega), ba_take, ba_drop]
    rw [List.take_append_of_le_length (by omega), List.take_of_length_le (by omega), List.drop_append_of_le_length (by omega), List.drop_of_length_le (by omega), ba_list]
    rfl
  · rcases split_cut hp hq with ⟨q1, g1, g2⟩ | ⟨p2, rfl, g2⟩
    · have h1 := rn_cut 9 0 0 s.size p q1 false g1 g2
      obtain ⟨r', f', h⟩ := rnF_rd 10 0 0 (ba p) false
      obtain ⟨⟨n, st'⟩, hr⟩ : ∃ q, rnF 10 0 0 (.rd (ba p) false) = q := ⟨_, rfl⟩
      rw [hr] at h h1
      simp only at h h1
      subst h
      have hf' : f' = true := h1
      subst hf'
      simp only [txtP, hr]
      split
      · rfl
      · exact take_bad _ _
    · have h1 := rn_vn 9 0 0 s.size p2 false rfl (by omega) (by omega)
      simp only [Nat.zero_add, Nat.mul_zero, Nat.pow_zero, Nat.mul_one] at h1
      have h2 : rnF 10 0 0 (.rd (ba (vn s.size ++ p2)) false) = (s.size, .rd (ba p2) false) := h1
      simp only [txtP, h2]
      rw [if_neg hs]
      have hl : s.data.toList.length = s.size := by simp
      have hlt : p2.length < s.size := by
        have := congrArg List.length g2
        have hq0 : 0 < q.length := List.length_pos_iff.2 hq
        simp only [List.length_append] at this
        omega
      unfold takeP
      rw [if_pos (by rw [ba_size]; exact hlt)]
      rfl
theorem trip_each {α : Type} {part : St → α → α × St} {d : α} {ok : α → Prop} (hp : Trip part (fun x => x = d) ok) (hn : Nice part) : ∀ l b, (∀ x ∈ l, ok x) → failedP (eachP part (.wr b false) l) = false → ∃ t, eachP part (.wr b false) l = .wr (b ++ t) false ∧ (∀ r acc, takenP part d l.length (.rd (ba (t ++ r)) false) acc = (acc ++ l, .rd (ba r) false)) ∧ (∀ p q acc, q ≠ [] → p ++ q = t → failedP (takenP part d l.length (.rd (ba p) false) acc).2 = true)
  | [], b, ho, hf => ⟨[], by simp [eachP], fun r acc => by simp [takenP], fun p q acc hq hp => by simp at hp; exact absurd hp.2 hq⟩
  | x :: xs, b, ho, hf => by
    simp only [eachP] at hf ⊢
    have h0 : failedP (.wr b false) = false := by
      cases hs : failedP (.wr b false) with
      | false => rfl
      | true => rw [if_pos hs, hs] at hf; cases hf
    rw [if_neg (by rw [h0]; simp)] at hf ⊢
    have h1 : failedP (part (.wr b false) x).2 = false := by
      cases hs : failedP (part (.wr b false) x).2 with
      | false => rfl
      | true => rw [(each_nice hn xs _).2 hs] at hf; cases hf
    obtain ⟨t, a1, a2, a3⟩ := hp b x (ho x (by simp)) h1
    rw [a1] at hf ⊢
    obtain ⟨s, b1, b2, b3⟩ := trip_each hp hn xs (b ++ t) (fun y hy => ho y (by simp [hy])) hf
    have hfr : ∀ r : List UInt8, failedP (.rd (ba r) false) = false := fun r => rfl
    refine ⟨t ++ s, by rw [b1, List.append_assoc], fun r acc => ?_, fun p q acc hq hpq => ?_⟩
    · show takenP part d (xs.length + 1) _ _ = _
      simp only [takenP]
      rw [if_neg (by rw [hfr]; simp), List.append_assoc, a2 (s ++ r) d rfl]
      simp only
      rw [b2 r (acc ++ [x])]
      simp
    · show failedP (takenP part d (xs.length + 1) _ _).2 = true
      simp only [takenP]
      rw [if_neg (by rw [hfr]; simp)]
      rcases split_cut hpq hq with ⟨q1, g1, g2⟩ | ⟨p2, rfl, g2⟩
      · exact (taken_nice hn d xs.length _ _).2 (a3 p q1 d rfl g1 g2)
      · rw [a2 p2 d rfl]
        exact b3 p2 q _ hq g2
theorem list_wr_bad {α : Type} (most : Nat) (part : St → α → α × St) (d : α) (b : List UInt8) (l : List α) (h : most < l.length) : listP most part d (.wr b false) l = (l, eachP part (.wr (b ++ vn l.length) true) l) := by
  have e : (if most < (numP (.wr b false) l.length).1 then failP (numP (.wr b false) l.length).2 else (numP (.wr b false) l.length).2) = .wr (b ++ vn l.length) true := if_pos h
  simp only [listP]
  rw [e]
  rfl
theorem list_wr {α : Type} (most : Nat) (part : St → α → α × St) (d : α) (b : List UInt8) (l : List α) (h : ¬ most < l.length) : listP most part d (.wr b false) l = (l, eachP part (.wr (b ++ vn l.length) false) l) := by
  have e : (if most < (numP (.wr b false) l.length).1 then failP (numP (.wr b false) l.length).2 else (numP (.wr b false) l.length).2) = .wr (b ++ vn l.length) false := if_neg h
  simp only [listP]
  rw [e]
  rfl
theorem trip_list {α : Type} {part : St → α → α × St} (most : Nat) {d : α} {ok : α → Prop} (hp : Trip part (fun x => x = d) ok) (hn : Nice part) : Trip (listP most part d) any (fun l => l.length < 18446744073709551616 ∧ ∀ x ∈ l, ok x) := fun b l hl hf => by
  have hm : ¬ most < l.length := fun h => by
    rw [list_wr_bad most part d b l h] at hf
    have : failedP (eachP part (.wr (b ++ vn l.length) true) l) = true := (each_nice hn l _).2 rfl
    rw [this] at hf
    cases hf
  have hf2 : failedP (eachP part (.wr (b ++ vn l.length) false) l) = false := by
    rw [list_wr most part d b l hm] at hf
    exact hf
  obtain ⟨s, b1, b2, b3⟩ := trip_each hp hn l (b ++ vn l.length) hl.2 hf2
  have hv : failedP (numP (.wr b false) l.length).2 = false := by
    cases hs : failedP (.wr (b ++ vn l.length) false) with
    | false => exact hs
    | true => rw [(each_nice hn l _).2 hs] at hf2; cases hf2
  obtain ⟨t, a1, a2, a3⟩ := trip_num b l.length hl.1 hv
  have ht : t = vn l.length := by
    have e : (St.wr (b ++ vn l.length) false) = .wr (b ++ t) false := congrArg Prod.snd a1
    simpa using e.symm
  subst ht
  refine ⟨vn l.length ++ s, ?_, fun r d' _ => ?_, fun p q d' _ hq hpq => ?_⟩
  · rw [list_wr most part d b l hm, b1, List.append_assoc]
  · simp only [listP]
    rw [List.append_assoc, a2 (s ++ r) d'.length trivial]
    simp only
    rw [if_neg hm]
    show takenP part d l.length _ [] = _
    rw [b2 r []]
    simp
  · simp only [listP]
    rcases split_cut hpq hq with ⟨q1, g1, g2⟩ | ⟨p2, rfl, g2⟩
    · have hb := a3 p q1 d'.length trivial g1 g2
      have hr : St.reads (numP (.rd (ba p) false) d'.length).2 = true := by rw [numP_reads]; rfl
      generalize numP (.rd (ba p) false) d'.length = w at hb hr ⊢
      have hb2 : failedP (if most < w.1 then failP w.2 else w.2) = true := (if_nice (c := most < w.1) ⟨rfl, fun h => h⟩).2 hb
      have hr2 : St.reads (if most < w.1 then failP w.2 else w.2) = true := by split <;> simp [failP_reads, hr]
      rw [if_pos hr2]
      exact (taken_nice hn d _ _ _).2 hb2
    · rw [a2 p2 d'.length trivial]
      simp only
      rw [if_neg hm]
      exact b3 p2 q [] hq g2
end Go.Proofs.YtjpnomkcinfonaaGreatDoor
/- .. and through the parts of a message. -/
namespace Go.Proofs.YtjpnomkcinfonaaGreatDoor
set_option linter.unusedVariables false
set_option linter.unusedSimpArgs false
theorem nice_seqP {α β : Type} {f : St → α → α × St} {g : St → β → β × St} (hf : Nice f) (hg : Nice g) : Nice (seqP f g) := fun st x => nice_seq (hf st x.1) (hg (f st x.1).2 x.2)
theorem chk0 {v : Val} (h : chkV v = 0) : v.k < 4 ∧ v = v.bare := by
  unfold chkV at h
  split at h
  · cases h
  · rename_i hn
    have h1 : ¬ 4 ≤ v.k := fun e => hn (.inl e)
    have h2 : sameV v v.bare = true := by
      cases hs : sameV v v.bare with
      | true => rfl
      | false => exact absurd (.inr hs) hn
    exact ⟨by omega, (sameV_iff _ _).1 h2⟩
/-- What follows a value's kind. -/
def valQ (k : Nat) (st : St) (v : Val) : Val × St :=
  if k = 1 then (⟨(k : Int), (flagP st v.b).1, v.n, v.s⟩, (flagP st v.b).2)
  else if k = 2 then (⟨(k : Int), v.b, (longP st v.n).1, v.s⟩, (longP st v.n).2)
  else if k = 3 then (⟨(k : Int), v.b, v.n, (txtP st v.s).1⟩, (txtP st v.s).2)
  else (⟨(k : Int), v.b, v.n, v.s⟩, st)
def fin (q : Val × St) : Val × St := (q.1, if chkV q.1 = 0 then q.2 else failP q.2)
theorem valP_eq (st : St) (v : Val) : valP st v = fin (valQ (octP st v.k.toNat).1 (octP st v.k.toNat).2 v) := rfl
theorem fin_ok {q : Val × St} (h : failedP (fin q).2 = false) : chkV q.1 = 0 ∧ failedP q.2 = false := by
  unfold fin at h
  simp only at h
  split at h
  · rename_i hc
    exact ⟨hc, h⟩
  · rw [(fail_nice _).2] at h
    cases h
theorem fin_bad {q : Val × St} (h : failedP q.2 = true) : failedP (fin q).2 = true := by
  unfold fin
  simp only
  split
  · exact h
  · exact (fail_nice _).2
theorem fin_eq {q : Val × St} (h : chkV q.1 = 0) : fin q = q := by
  unfold fin
  rw [if_pos h]
def okVal (v : Val) : Prop := (0 ≤ v.k ∧ v.k < 256) ∧ I64 v.n
theorem bare_is {v : Val} (h : v = v.bare) : v = ⟨v.k, if v.k = 1 then v.b else false, if v.k = 2 then v.n else 0, if v.k = 3 then v.s else ⟨#[]⟩⟩ := h
theorem trip_valQ (v : Val) (ho : okVal v) (hc : chkV v = 0) (b : List UInt8) (hf : failedP (valQ v.k.toNat (.wr b false) v).2 = false) : ∃ t, valQ v.k.toNat (.wr b false) v = (v, .wr (b ++ t) false) ∧ (∀ r, valQ v.k.toNat (.rd (ba (t ++ r)) false) val0 = (v, .rd (ba r) false)) ∧ (∀ p q, q ≠ [] → p ++ q = t → failedP (valQ v.k.toNat (.rd (ba p) false) val0).2 = true) := by
  obtain ⟨hk4, hb⟩ := chk0 hc
  obtain ⟨k, vb, n, s⟩ := v
  obtain ⟨⟨hk0, _⟩, hn⟩ := ho
  simp only at hk4 hk0 hn
  have hb2 : (⟨k, vb, n, s⟩ : Val) = ⟨k, if k = 1 then vb else false, if k = 2 then n else 0, if k = 3 then s else ⟨#[]⟩⟩ := hb
  rcases (show k = 0 ∨ k = 1 ∨ k = 2 ∨ k = 3 by omega) with rfl | rfl | rfl | rfl
  · simp at hb2
    obtain ⟨rfl, rfl, rfl⟩ := hb2
    exact ⟨[], by rw [List.append_nil]; rfl, fun r => rfl, fun p q hq hp => by simp at hp; exact absurd hp.2 hq⟩
  · simp at hb2
    obtain ⟨rfl, rfl⟩ := hb2
    obtain ⟨t, h1, h2, h3⟩ := trip_flag b vb trivial hf
    refine ⟨t, ?_, fun r => ?_, fun p q hq hp => h3 p q _ trivial hq hp⟩
    · show ((⟨((1 : Nat) : Int), (flagP _ _).1, _, _⟩ : Val), (flagP _ _).2) = _
      rw [h1]; rfl
    · show ((⟨((1 : Nat) : Int), (flagP _ _).1, _, _⟩ : Val), (flagP _ _).2) = _
      rw [h2 r _ trivial]; rfl
  · simp at hb2
    obtain ⟨rfl, rfl⟩ := hb2
    obtain ⟨t, h1, h2, h3⟩ := trip_long b n hn hf
    refine ⟨t, ?_, fun r => ?_, fun p q hq hp => h3 p q _ trivial hq hp⟩
    · show ((⟨((2 : Nat) : Int), _, (longP _ _).1, _⟩ : Val), (longP _ _).2) = _
      rw [h1]; rfl
    · show ((⟨((2 : Nat) : Int), _, (longP _ _).1, _⟩ : Val), (longP _ _).2) = _
      rw [h2 r _ trivial]; rfl
  · simp at hb2
    obtain ⟨rfl, rfl⟩ := hb2
    obtain ⟨t, h1, h2, h3⟩ := trip_txt b s trivial hf
    refine ⟨t, ?_, fun r => ?_, fun p q hq hp => h3 p q _ trivial hq hp⟩
    · show ((⟨((3 : Nat) : Int), _, _, (txtP _ _).1⟩ : Val), (txtP _ _).2) = _
      rw [h1]; rfl
    · show ((⟨((3 : Nat) : Int), _, _, (txtP _ _).1⟩ : Val), (txtP _ _).2) = _
      rw [h2 r _ trivial]; rfl
/-- What is written of a value's own is as it was. -/
theorem valQ_wr (v : Val) (h0 : 0 ≤ v.k) (b : List UInt8) : (valQ v.k.toNat (.wr b false) v).1 = v ∨ failedP (valQ v.k.toNat (.wr b false) v).2 = true := by
  have hk : ((v.k.toNat : Nat) : Int) = v.k := by omega
  unfold valQ
  rw [hk]
  split
  · exact .inl (by
      have : (flagP (.wr b false) v.b).1 = v.b := by cases hb : v.b <;> rfl
      rw [this])
  · split
    · exact .inl (by
        have : (longP (.wr b false) v.n).1 = v.n := zag_zig v.n
        rw [this])
    · split
      · by_cases hs : 2048 < v.s.size
        · right
          show failedP (txtP (.wr b false) v.s).2 = true
          simp only [txtP]; rw [if_pos hs]; rfl
        · left
          have : (txtP (.wr b false) v.s).1 = v.s := by simp only [txtP]; rw [if_neg hs]
          rw [this]
      · exact .inl rfl
theorem trip_val : Trip valP (fun v => v = val0) okVal := fun b v ho hf => by
  rw [valP_eq] at hf
  obtain ⟨hc, hf2⟩ := fin_ok hf
  have hkl : v.k.toNat < 256 := by have := ho.1; omega
  have ho1 : octP (.wr b false) v.k.toNat = (v.k.toNat, .wr (b ++ [UInt8.ofNat v.k.toNat]) false) := rfl
  rw [ho1] at hc hf2
  have hv : (valQ v.k.toNat (.wr (b ++ [UInt8.ofNat v.k.toNat]) false) v).1 = v := by
    rcases valQ_wr v ho.1.1 (b ++ [UInt8.ofNat v.k.toNat]) with h | h
    · exact h
    · rw [h] at hf2; cases hf2
  rw [hv] at hc
  obtain ⟨t, h1, h2, h3⟩ := trip_valQ v ho hc _ hf2
  have e1 : (UInt8.ofNat v.k.toNat).toNat = v.k.toNat := by simp; omega
  refine ⟨UInt8.ofNat v.k.toNat :: t, ?_, fun r d hd => ?_, fun p q d hd hq hp => ?_⟩
  · rw [valP_eq, ho1]
    simp only
    rw [h1, fin_eq hc]
    simp
  · subst hd
    rw [valP_eq]
    show fin (valQ (octP (.rd (ba (UInt8.ofNat v.k.toNat :: (t ++ r))) false) _).1 (octP (.rd (ba (UInt8.ofNat v.k.toNat :: (t ++ r))) false) _).2 val0) = _
    rw [oct_rd, e1]
    simp only
    rw [h2 r, fin_eq hc]
  · subst hd
    rw [valP_eq]
    cases p with
    | nil =>
      rw [oct_nil]
      exact fin_bad rfl
    | cons c p =>
      simp only [List.cons_append, List.cons.injEq] at hp
      obtain ⟨rfl, hp⟩ := hp
      rw [oct_rd, e1]
      exact fin_bad (h3 p q hq hp)
def okL {α : Type} (ok : α → Prop) : List α → Prop := fun l => l.length < 18446744073709551616 ∧ ∀ x ∈ l, ok x
theorem to_eq {α : Type} {f : St → α → α × St} {ok : α → Prop} {d : α} (h : Trip f any ok) : Trip f (fun x => x = d) ok := trip_less h (fun _ _ => trivial) (fun _ h => h)
theorem trip_row : Trip rowP any (okL okVal) := trip_list 64 trip_val nice_val
theorem trip_rows : Trip rowsP any (okL (okL okVal)) := trip_list 512 (to_eq trip_row) nice_row
theorem trip_ints : Trip intsP any (okL I64) := trip_list 64 (to_eq trip_long) nice_long
def okStp (s : Stp) : Prop := s.k < 256 ∧ I64 s.n
theorem trip_stp : Trip stpP any okStp := trip_via (to_ := fun s : Stp => (s.k, s.t, s.n)) (of := fun q => ⟨q.1, q.2.1, q.2.2⟩) (h := seqP octP (seqP txtP longP)) (trip_seq trip_oct (trip_seq trip_txt trip_long nice_long) (nice_seqP nice_txt nice_long)) (fun _ _ => rfl) (fun _ _ => ⟨trivial, trivial, trivial⟩) (fun x hx => ⟨hx.1, trivial, hx.2⟩)
theorem trip_stps : Trip stpsP any (okL okStp) := trip_list 64 (to_eq trip_stp) nice_stp
def okItm (s : Itm) : Prop := s.g < 256 ∧ okL okStp s.e
theorem trip_itm : Trip itmP any okItm := trip_via (to_ := fun s : Itm => (s.g, s.e)) (of := fun q => ⟨q.1, q.2⟩) (h := seqP octP stpsP) (trip_seq trip_oct trip_stps nice_stps) (fun _ _ => rfl) (fun _ _ => ⟨trivial, trivial⟩) (fun x hx => hx)
theorem trip_vrs : Trip vrsP any okV := trip_via (to_ := fun s : Vrs => (s.b, s.l)) (of := fun q => ⟨q.1, q.2⟩) (h := seqP numP numP) (trip_seq trip_num trip_num nice_num) (fun _ _ => rfl) (fun _ _ => ⟨trivial, trivial⟩) (fun x hx => hx)
def okSr (s : Sr) : Prop := s.k < 256 ∧ okV s.v ∧ I64 s.s ∧ okL I64 s.f
theorem trip_sr : Trip srP any okSr := trip_via (to_ := fun s : Sr => (s.k, s.t, s.v, s.s, s.f)) (of := fun q => ⟨q.1, q.2.1, q.2.2.1, q.2.2.2.1, q.2.2.2.2⟩) (h := seqP octP (seqP txtP (seqP vrsP (seqP longP intsP)))) (trip_seq trip_oct (trip_seq trip_txt (trip_seq trip_vrs (trip_seq trip_long trip_ints nice_ints) (nice_seqP nice_long nice_ints)) (nice_seqP nice_vrs (nice_seqP nice_long nice_ints))) (nice_seqP nice_txt (nice_seqP nice_vrs (nice_seqP nice_long nice_ints)))) (fun _ _ => rfl) (fun _ _ => ⟨trivial, trivial, trivial, trivial, trivial⟩) (fun x hx => ⟨hx.1, trivial, hx.2.1, hx.2.2.1, hx.2.2.2⟩)
def okCl (c : Cl) : Prop := c.k < 256
theorem trip_cl : Trip clP any okCl := trip_via (to_ := fun s : Cl => (s.n, s.k)) (of := fun q => ⟨q.1, q.2⟩) (h := seqP txtP octP) (trip_seq trip_txt trip_oct nice_oct) (fun _ _ => rfl) (fun _ _ => ⟨trivial, trivial⟩) (fun x hx => ⟨trivial, hx⟩)
theorem trip_cls : Trip clsP any (okL okCl) := trip_list 64 (to_eq trip_cl) nice_cl
def okTbl (t : Tbl) : Prop := okL okCl t.c
theorem trip_tbl : Trip tblP (fun t => t = tbl0) okTbl := fun b t ho hf => by
  have hs : ∀ st (u : Tbl), tblP st u = (⟨(seqP txtP clsP st (u.n, u.c)).1.1, (seqP txtP clsP st (u.n, u.c)).1.2, u.r⟩, if 0 < u.r.length then failP (seqP txtP clsP st (u.n, u.c)).2 else (seqP txtP clsP st (u.n, u.c)).2) := fun st u => rfl
  rw [hs] at hf
  have hr : ¬ 0 < t.r.length := fun h => by
    simp only at hf
    rw [if_pos h, (fail_nice _).2] at hf
    cases hf
  simp only at hf
  rw [if_neg hr] at hf
  obtain ⟨s, h1, h2, h3⟩ := trip_seq trip_txt trip_cls nice_cls b (t.n, t.c) ⟨trivial, ho⟩ hf
  have hr0 : t.r = [] := List.eq_nil_of_length_eq_zero (by omega)
  refine ⟨s, ?_, fun r d hd => ?_, fun p q d hd hq hp => ?_⟩
  · rw [hs, if_neg hr, h1]
  · subst hd
    rw [hs, if_neg (by show ¬ 0 < ([] : List (List Val)).length; simp), h2 r _ ⟨trivial, trivial⟩]
    show ((⟨t.n, t.c, []⟩ : Tbl), _) = _
    rw [← hr0]
  · subst hd
    rw [hs, if_neg (by show ¬ 0 < ([] : List (List Val)).length; simp)]
    exact h3 p q _ ⟨trivial, trivial⟩ hq hp
def okClm (c : Clm) : Prop := okL okCl c.c ∧ okV c.v ∧ okL (okL I64) c.o
theorem nice_owners : Nice (listP 64 intsP []) := nice_list 64 [] nice_ints
theorem trip_owners : Trip (listP 64 intsP []) any (okL (okL I64)) := trip_list 64 (to_eq trip_ints) nice_ints
theorem trip_clm : Trip clmP any okClm := trip_via (to_ := fun s : Clm => (s.t, s.c, s.v, s.o)) (of := fun q => ⟨q.1, q.2.1, q.2.2.1, q.2.2.2⟩) (h := seqP txtP (seqP clsP (seqP vrsP (listP 64 intsP [])))) (trip_seq trip_txt (trip_seq trip_cls (trip_seq trip_vrs trip_owners nice_owners) (nice_seqP nice_vrs nice_owners)) (nice_seqP nice_cls (nice_seqP nice_vrs nice_owners))) (fun _ _ => rfl) (fun _ _ => ⟨trivial, trivial, trivial, trivial⟩) (fun x hx => ⟨trivial, hx.1, hx.2.1, hx.2.2⟩)
end Go.Proofs.YtjpnomkcinfonaaGreatDoor
/- .. and through a message. -/
namespace Go.Proofs.YtjpnomkcinfonaaGreatDoor
set_option linter.unusedVariables false
set_option linter.unusedSimpArgs false
def okBnd (b : Bnd) : Prop := I64 b.w ∧ I64 b.l ∧ I64 b.r ∧ okL okStp b.wh ∧ okL I64 b.g ∧ okL okItm b.i ∧ okL (fun _ => True) b.nm ∧ okL (fun k => k < 256) b.kd
theorem nice_its : Nice (listP 64 itmP itm0) := nice_list 64 itm0 nice_itm
theorem nice_nms : Nice (listP 64 txtP s0) := nice_list 64 s0 nice_txt
theorem nice_kds : Nice (listP 64 octP 0) := nice_list 64 0 nice_oct
theorem trip_its : Trip (listP 64 itmP itm0) any (okL okItm) := trip_list 64 (to_eq trip_itm) nice_itm
theorem trip_nms : Trip (listP 64 txtP s0) any (okL (fun _ => True)) := trip_list 64 (to_eq trip_txt) nice_txt
theorem trip_kds : Trip (listP 64 octP 0) any (okL (fun k => k < 256)) := trip_list 64 (to_eq trip_oct) nice_oct
set_option maxHeartbeats 4000000 in
theorem trip_bnd : Trip bndP any okBnd := by
  have n1 := nice_kds
  have n2 := nice_seqP nice_nms n1
  have n3 := nice_seqP nice_flag n2
  have n4 := nice_seqP nice_its n3
  have n5 := nice_seqP nice_ints n4
  have n6 := nice_seqP nice_stps n5
  have n7 := nice_seqP nice_long n6
  have n8 := nice_seqP nice_long n7
  have n9 := nice_seqP nice_long n8
  have m1 := nice_seqP nice_txt n9
  have hs := trip_seq trip_txt (trip_seq trip_txt (trip_seq trip_long (trip_seq trip_long (trip_seq trip_long (trip_seq trip_stps (trip_seq trip_ints (trip_seq trip_its (trip_seq trip_flag (trip_seq trip_nms trip_kds n1) n2) n3) n4) n5) n6) n7) n8) n9) m1
  exact trip_via (to_ := fun s : Bnd => (s.t, s.j, s.w, s.l, s.r, s.wh, s.g, s.i, s.gr, s.nm, s.kd)) (of := fun q => ⟨q.1, q.2.1, q.2.2.1, q.2.2.2.1, q.2.2.2.2.1, q.2.2.2.2.2.1, q.2.2.2.2.2.2.1, q.2.2.2.2.2.2.2.1, q.2.2.2.2.2.2.2.2.1, q.2.2.2.2.2.2.2.2.2.1, q.2.2.2.2.2.2.2.2.2.2⟩) hs (fun _ _ => rfl) (fun _ _ => ⟨trivial, trivial, trivial, trivial, trivial, trivial, trivial, trivial, trivial, trivial, trivial⟩) (fun x hx => ⟨trivial, trivial, hx.1, hx.2.1, hx.2.2.1, hx.2.2.2.1, hx.2.2.2.2.1, hx.2.2.2.2.2.1, trivial, hx.2.2.2.2.2.2.1, hx.2.2.2.2.2.2.2⟩)
def okFrg (f : Frg) : Prop := I64 f.id ∧ I64 f.nd ∧ okSr f.l ∧ okSr f.r ∧ I64 f.by_ ∧ okL I64 f.to
set_option maxHeartbeats 1000000 in
theorem trip_frg : Trip frgP any okFrg := by
  have n1 := nice_ints
  have n2 := nice_seqP nice_long n1
  have n3 := nice_seqP nice_flag n2
  have n4 := nice_seqP nice_sr n3
  have n5 := nice_seqP nice_sr n4
  have n6 := nice_seqP nice_long n5
  have hs := trip_seq trip_long (trip_seq trip_long (trip_seq trip_sr (trip_seq trip_sr (trip_seq trip_flag (trip_seq trip_long trip_ints n1) n2) n3) n4) n5) n6
  exact trip_via (to_ := fun s : Frg => (s.id, s.nd, s.l, s.r, s.raw, s.by_, s.to)) (of := fun q => ⟨q.1, q.2.1, q.2.2.1, q.2.2.2.1, q.2.2.2.2.1, q.2.2.2.2.2.1, q.2.2.2.2.2.2⟩) hs (fun _ _ => rfl) (fun _ _ => ⟨trivial, trivial, trivial, trivial, trivial, trivial, trivial⟩) (fun x hx => ⟨hx.1, hx.2.1, hx.2.2.1, hx.2.2.2.1, trivial, hx.2.2.2.2.1, hx.2.2.2.2.2⟩)
def okFh (f : Fh) : Prop := okV f.v ∧ I64 f.s ∧ okL okCl f.c
theorem trip_fh : Trip fhP any okFh := by
  have n1 := nice_cls
  have n2 := nice_seqP nice_long n1
  have n3 := nice_seqP nice_vrs n2
  have hs := trip_seq trip_txt (trip_seq trip_vrs (trip_seq trip_long trip_cls n1) n2) n3
  exact trip_via (to_ := fun s : Fh => (s.t, s.v, s.s, s.c)) (of := fun q => ⟨q.1, q.2.1, q.2.2.1, q.2.2.2⟩) hs (fun _ _ => rfl) (fun _ _ => ⟨trivial, trivial, trivial, trivial⟩) (fun x hx => ⟨trivial, hx.1, hx.2.1, hx.2.2⟩)
theorem trip_tbls : Trip (listP 64 tblP tbl0) any (okL okTbl) := trip_list 64 trip_tbl nice_tbl
theorem trip_clms : Trip (listP 64 clmP clm0) any (okL okClm) := trip_list 64 (to_eq trip_clm) nice_clm
/-- A message whose numbers fit. -/
structure OkM (x : Mg) : Prop where
  k : x.k < 256
  bt : x.bt < 18446744073709551616
  q : okV ⟨x.st.qb, x.st.qn⟩
  at_ : I64 x.st.at_
  fr : I64 x.st.fr
  tq : I64 x.st.to
  bd : okBnd x.bd
  ct : okL okTbl x.ct
  fg : okFrg x.fg
  nd : okL I64 x.nd
  sq : x.sq < 18446744073709551616
  rw_ : okL (okL okVal) x.rw
  fh : okFh ⟨x.fl.t, x.fl.v, x.fl.s, x.fl.c⟩
  fw : okL (okL okVal) x.fl.r
  cm : okL okClm x.cm
/-- What a field writes is read again. -/
def FT (i : Nat) (x : Mg) : Prop := ∀ b, failedP (fldP i (.wr b false) x).2 = false → ∃ t, fldP i (.wr b false) x = (x, .wr (b ++ t) false) ∧ (∀ r y, (fldP i (.rd (ba (t ++ r)) false) y).2 = .rd (ba r) false) ∧ (∀ p q y, q ≠ [] → p ++ q = t → failedP (fldP i (.rd (ba p) false) y).2 = true)
theorem ft_of {α : Type} {g : St → α → α × St} {ok : α → Prop} (i : Nat) (x : Mg) (pr : Mg → α) (up : Mg → α → Mg) (hu : up x (pr x) = x) (hg : ∀ st y, fldP i st y = (up y (g st (pr y)).1, (g st (pr y)).2)) (ht : Trip g any ok) (ho : ok (pr x)) : FT i x := fun b hf => by
  rw [hg] at hf
  obtain ⟨t, h1, h2, h3⟩ := ht b (pr x) ho hf
  refine ⟨t, ?_, fun r y => ?_, fun p q y hq hp => ?_⟩
  · rw [hg, h1]
    simp only
    rw [hu]
  · rw [hg, h2 r (pr y) trivial]
  · rw [hg]
    exact h3 p q (pr y) trivial hq hp
theorem fts (x : Mg) (h : OkM x) (i : Nat) (hi : i < 15) : FT i x := by
  match i, hi with
  | 0, _ => exact ft_of 0 x (fun y => y.bt) (fun y a => { y with bt := a }) rfl (fun _ _ => rfl) trip_num h.bt
  | 1, _ => exact ft_of 1 x (fun y => (⟨y.st.qb, y.st.qn⟩ : Vrs)) (fun y a => { y with st := { y.st with qb := a.b, qn := a.l } }) rfl (fun _ _ => rfl) trip_vrs h.q
  | 2, _ => exact ft_of 2 x (fun y => y.st.at_) (fun y a => { y with st := { y.st with at_ := a } }) rfl (fun _ _ => rfl) trip_long h.at_
  | 3, _ => exact ft_of 3 x (fun y => y.st.fr) (fun y a => { y with st := { y.st with fr := a } }) rfl (fun _ _ => rfl) trip_long h.fr
  | 4, _ => exact ft_of 4 x (fun y => y.st.to) (fun y a => { y with st := ⟨y.st.qb, y.st.qn, y.st.at_, y.st.fr, a⟩ }) rfl (fun _ _ => rfl) trip_long h.tq
  | 5, _ => exact ft_of 5 x (fun y => y.bd) (fun y a => { y with bd := a }) rfl (fun _ _ => rfl) trip_bnd h.bd
  | 6, _ => exact ft_of 6 x (fun y => y.ct) (fun y a => { y with ct := a }) rfl (fun _ _ => rfl) trip_tbls h.ct
  | 7, _ => exact ft_of 7 x (fun y => y.fg) (fun y a => { y with fg := a }) rfl (fun _ _ => rfl) trip_frg h.fg
  | 8, _ => exact ft_of 8 x (fun y => y.nd) (fun y a => { y with nd := a }) rfl (fun _ _ => rfl) trip_ints h.nd
  | 9, _ => exact ft_of 9 x (fun y => y.sq) (fun y a => { y with sq := a }) rfl (fun _ _ => rfl) trip_num h.sq
  | 10, _ => exact ft_of 10 x (fun y => y.ls) (fun y a => { y with ls := a }) rfl (fun _ _ => rfl) trip_flag trivial
  | 11, _ => exact ft_of 11 x (fun y => y.rw) (fun y a => { y with rw := a }) rfl (fun _ _ => rfl) trip_rows h.rw_
  | 12, _ => exact ft_of 12 x (fun y => (⟨y.fl.t, y.fl.v, y.fl.s, y.fl.c⟩ : Fh)) (fun y a => { y with fl := { y.fl with t := a.t, v := a.v, s := a.s, c := a.c } }) rfl (fun _ _ => rfl) trip_fh h.fh
  | 13, _ => exact ft_of 13 x (fun y => y.fl.r) (fun y a => { y with fl := { y.fl with r := a } }) rfl (fun _ _ => rfl) trip_rows h.fw
  | 14, _ => exact ft_of 14 x (fun y => y.cm) (fun y a => { y with cm := a }) rfl (fun _ _ => rfl) trip_clms h.cm
theorem trip_go : ∀ n i b x, i + n = 15 → OkM x → failedP (goP true n i (.wr b false) x).2 = false → ∃ t, goP true n i (.wr b false) x = (x, .wr (b ++ t) false) ∧ (∀ r y, y.k = x.k → (goP true n i (.rd (ba (t ++ r)) false) y).2 = .rd (ba r) false) ∧ (∀ p q y, y.k = x.k → q ≠ [] → p ++ q = t → failedP (goP true n i (.rd (ba p) false) y).2 = true)
  | 0, i, b, x, hi, ho, hf => ⟨[], by simp [goP], fun r y hy => rfl, fun p q y hy hq hp => by simp at hp; exact absurd hp.2 hq⟩
  | n + 1, i, b, x, hi, ho, hf => by
    simp only [goP] at hf ⊢
    by_cases hc : (ofK.getD i []).contains x.k = true
    · rw [if_pos hc] at hf ⊢
      have h1 : failedP (fldP i (.wr b false) x).2 = false := by
        cases hs : failedP (fldP i (.wr b false) x).2 with
        | false => rfl
        | true => rw [go_stick true n (i + 1) _ _ hs] at hf; cases hf
      obtain ⟨t, a1, a2, a3⟩ := fts x ho i (by omega) b h1
      rw [a1] at hf ⊢
      obtain ⟨s, b1, b2, b3⟩ := trip_go n (i + 1) (b ++ t) x (by omega) ho hf
      refine ⟨t ++ s, by rw [b1, List.append_assoc], fun r y hy => ?_, fun p q y hy hq hp => ?_⟩
      · rw [hy, if_pos hc, List.append_assoc, a2 (s ++ r) y]
        exact b2 r _ ((fldP_k i _ y).trans hy)
      · rw [hy, if_pos hc]
        rcases split_cut hp hq with ⟨q1, g1, g2⟩ | ⟨p2, rfl, g2⟩
        · exact go_stick true n (i + 1) _ _ (a3 p q1 y g1 g2)
        · rw [a2 p2 y]
          exact b3 p2 q _ ((fldP_k i _ y).trans hy) hq g2
    · rw [if_neg hc] at hf ⊢
      obtain ⟨s, b1, b2, b3⟩ := trip_go n (i + 1) b x (by omega) ho hf
      refine ⟨s, b1, fun r y hy => ?_, fun p q y hy hq hp => ?_⟩
      · rw [hy, if_neg hc]
        exact b2 r y hy
      · rw [hy, if_neg hc]
        exact b3 p q y hy hq hp
theorem trip_msg (x : Mg) (ho : OkM x) (hf : failedP (msgP (.wr [] false) x).2 = false) : ∃ t, msgP (.wr [] false) x = (x, .wr t false) ∧ (∀ r y, (msgP (.rd (ba (t ++ r)) false) y).2 = .rd (ba r) false) ∧ (∀ p q y, q ≠ [] → p ++ q = t → failedP (msgP (.rd (ba p) false) y).2 = true) := by
  have e0 : ∀ st (y : Mg), msgP st y = goP true 15 0 (if (octP st y.k).1 = 0 ∨ 10 ≤ (octP st y.k).1 then failP (octP st y.k).2 else (octP st y.k).2) { y with k := (octP st y.k).1 } := fun _ _ => rfl
  have ew : octP (.wr [] false) x.k = (x.k, .wr [UInt8.ofNat x.k] false) := rfl
  rw [e0, ew] at hf ⊢
  simp only at hf ⊢
  have hk : ¬ (x.k = 0 ∨ 10 ≤ x.k) := fun h => by
    rw [if_pos h] at hf
    rw [go_stick true 15 0 _ _ rfl] at hf
    cases hf
  rw [if_neg hk] at hf ⊢
  obtain ⟨s, b1, b2, b3⟩ := trip_go 15 0 [UInt8.ofNat x.k] x rfl ho hf
  have e1 : (UInt8.ofNat x.k).toNat = x.k := by have := ho.k; simp; omega
  refine ⟨UInt8.ofNat x.k :: s, b1, fun r y => ?_, fun p q y hq hp => ?_⟩
  · rw [e0]
    show (goP true 15 0 (if (octP (.rd (ba (UInt8.ofNat x.k :: (s ++ r))) false) y.k).1 = 0 ∨ 10 ≤ (octP (.rd (ba (UInt8.ofNat x.k :: (s ++ r))) false) y.k).1 then failP (octP (.rd (ba (UInt8.ofNat x.k :: (s ++ r))) false) y.k).2 else (octP (.rd (ba (UInt8.ofNat x.k :: (s ++ r))) false) y.k).2) { y with k := (octP (.rd (ba (UInt8.ofNat x.k :: (s ++ r))) false) y.k).1 }).2 = _
    rw [oct_rd, e1]
    simp only
    rw [if_neg hk]
    exact b2 r _ rfl
  · rw [e0]
    cases p with
    | nil =>
      rw [oct_nil]
      exact go_stick true 15 0 _ _ (by rw [if_pos (.inl rfl)]; rfl)
    | cons c p =>
      simp only [List.cons_append, List.cons.injEq] at hp
      obtain ⟨rfl, hp⟩ := hp
      rw [oct_rd, e1]
      simp only
      rw [if_neg hk]
      exact b3 p q _ rfl hq hp
/-- A text that is cut short is none. -/
theorem cut_bad (x : Mg) (ho : OkM x) (h : wrE x = 0) (k : Nat) (hk : k < (wrS x).size) : rdE ((wrS x).extract 0 k) = 11 := by
  have hw : wrOk x = true := by
    cases hs : wrOk x with
    | true => rfl
    | false => unfold wrE at h; rw [hs] at h; simp at h
  have hf : failedP (wr1 x).2 = false := by
    unfold wrOk at hw
    simp at hw
    exact hw.1
  obtain ⟨t, h1, h2, h3⟩ := trip_msg x ho hf
  have hS : wrS x = ba t := by
    unfold wrS
    rw [hw]
    show (⟨(msgP (.wr [] false) x).2.bytes.toArray⟩ : ByteArray) = _
    rw [h1]
    rfl
  rw [hS] at hk ⊢
  rw [ba_size] at hk
  rw [ba_take]
  have := h3 (t.take k) (t.drop k) mg0 (by
    intro e
    have := congrArg List.length e
    simp at this
    omega) (List.take_append_drop k t)
  have hb : failedP (rd1 (ba (t.take k))).2 = true := this
  unfold rdE rdOk
  rw [hb]
  simp
/-- .. and so is one with bytes more. -/
theorem more_bad (x : Mg) (ho : OkM x) (h : wrE x = 0) (m : ByteArray) : rdE (wrS x ++ m) = if m.size = 0 then 0 else 11 := by
  have hw : wrOk x = true := by
    cases hs : wrOk x with
    | true => rfl
    | false => unfold wrE at h; rw [hs] at h; simp at h
  have hf : failedP (wr1 x).2 = false := by
    unfold wrOk at hw
    simp at hw
    exact hw.1
  obtain ⟨t, h1, h2, h3⟩ := trip_msg x ho hf
  have hS : wrS x = ba t := by
    unfold wrS
    rw [hw]
    show (⟨(msgP (.wr [] false) x).2.bytes.toArray⟩ : ByteArray) = _
    rw [h1]
    rfl
  have hlen : t.length ≤ 65536 := by
    have h5 : failedP (msgP (.wr [] false) x).2 = false := hf
    rw [h1] at h5
    simp [failedP] at h5
    omega
  have hm : ba t ++ m = ba (t ++ m.data.toList) := ba_ext (by simp [ba])
  have hr : (rd1 (ba (t ++ m.data.toList))).2 = .rd (ba m.data.toList) false := h2 m.data.toList mg0
  rw [hS, hm]
  unfold rdE rdOk
  rw [hr]
  have hml : m.data.toList.length = m.size := by simp
  show (if (!(decide (65536 < (ba (t ++ m.data.toList)).size)) && (!false && (ba m.data.toList).size == 0)) = true then (0 : Int) else 11) = _
  rw [ba_size, ba_size, List.length_append, hml]
  by_cases h0 : m.size = 0
  · rw [h0]; simp; omega
  · simp [h0]
end Go.Proofs.YtjpnomkcinfonaaGreatDoor
/- The numbers of a message in memory fit. -/
namespace Go.Proofs.YtjpnomkcinfonaaGreatDoor
set_option linter.unusedVariables false
set_option linter.unusedSimpArgs false
theorem okL_of {α : Type} {rel : Rel α} {ok : α → Prop} (h : ∀ K W cs x, rel K W cs x → ok x) {sz bts : Nat} {K : Nat → Prop} {W : World} {v : Value} {xs : List α} (hb : 0 < bts) (hl : ListIs rel sz bts K W v xs) : okL ok xs := by
  obtain ⟨q, c, rfl, hbt, hh⟩ := hl
  refine ⟨?_, fun x hx => ?_⟩
  · have : xs.length ≤ xs.length * bts := Nat.le_mul_of_pos_right _ hb
    omega
  · obtain ⟨j, hj, rfl⟩ := List.getElem_of_mem hx
    obtain ⟨b, o, rfl, _, he⟩ := hh (by omega)
    obtain ⟨cs, _, _, hr⟩ := he j hj
    exact h _ _ _ _ hr
theorem o_int : ∀ K W cs x, rInt K W cs x → I64 x := fun _ _ _ _ h => h.2
theorem o_txt : ∀ K W cs x, rTxt K W cs x → (fun _ : ByteArray => True) x := fun _ _ _ _ _ => trivial
theorem o_knd : ∀ K W cs x, rKnd K W cs x → (fun k : Nat => k < 256) x := fun _ _ _ _ h => h.2
theorem o_val : ∀ K W cs x, rVal K W cs x → okVal x := fun _ _ _ _ h => ⟨h.2.1, h.2.2.1⟩
theorem o_row : ∀ K W cs x, rRow K W cs x → okL okVal x := fun _ _ _ _ ⟨v, _, h⟩ => okL_of o_val (by omega) h
theorem o_stp : ∀ K W cs x, rStp K W cs x → okStp x := fun _ _ _ _ h => ⟨h.2.1, h.2.2.2⟩
theorem o_itm : ∀ K W cs x, rItm K W cs x → okItm x := fun _ _ _ _ ⟨v, _, h1, h2⟩ => ⟨h1, okL_of o_stp (by omega) h2⟩
theorem o_cl : ∀ K W cs x, rCl K W cs x → okCl x := fun _ _ _ _ h => h.2.2
theorem o_tbl : ∀ K W cs x, rTbl K W cs x → okTbl x := fun _ _ _ _ ⟨v, u, _, _, h1, h2⟩ => okL_of o_cl (by omega) h1
theorem o_ints : ∀ K W cs x, rInts K W cs x → okL I64 x := fun _ _ _ _ ⟨v, _, h⟩ => okL_of o_int (by omega) h
theorem o_sr : ∀ K W cs x, rSr K W cs x → okSr x := fun _ _ _ _ ⟨v, _, h1, _, h3, h4, h5⟩ => ⟨h1, h3, h4, okL_of o_int (by omega) h5⟩
theorem o_clm : ∀ K W cs x, rClm K W cs x → okClm x := fun _ _ _ _ ⟨v, u, _, _, h2, h3, h4⟩ => ⟨okL_of o_cl (by omega) h2, h3, okL_of o_ints (by omega) h4⟩
theorem okM_of {D : Nat → Prop} {W : World} {cur : Array Value} {x : Mg} (h : MsgIs D W cur x) : OkM x := by
  obtain ⟨_, _, _, hbt⟩ := h.bt
  obtain ⟨_, _, _, hqr⟩ := h.qr
  obtain ⟨_, _, _, hat⟩ := h.at_
  obtain ⟨_, _, _, hfr⟩ := h.fr
  obtain ⟨_, _, _, htq⟩ := h.tq
  obtain ⟨_, _, _, hbd⟩ := h.bd
  obtain ⟨_, _, _, hct⟩ := h.ct
  obtain ⟨_, _, _, hfg⟩ := h.fg
  obtain ⟨_, _, _, hnd⟩ := h.nd
  obtain ⟨_, _, _, hsq⟩ := h.sq
  obtain ⟨_, _, _, hrw⟩ := h.rw_
  obtain ⟨_, _, _, hfh⟩ := h.fh
  obtain ⟨_, _, _, hfw⟩ := h.fw
  obtain ⟨_, _, _, hcm⟩ := h.cm
  obtain ⟨_, _, _, _, _, _, _, _, hw, hl, hr, h1, h2, h3, h4, h5⟩ := hbd
  obtain ⟨_, hct⟩ := hct
  obtain ⟨_, _, _, _, f1, f2, f3, f4, f5, f6⟩ := hfg
  obtain ⟨_, _, hrw⟩ := hrw
  obtain ⟨_, _, _, g2, g3, g4⟩ := hfh
  obtain ⟨_, _, hfw⟩ := hfw
  obtain ⟨_, _, hcm⟩ := hcm
  exact ⟨h.kl, hbt.2, ⟨hqr.2.1, hqr.2.2⟩, hat.2, hfr.2, htq.2, ⟨hw, hl, hr, okL_of o_stp (by omega) h1, okL_of o_int (by omega) h2, okL_of o_itm (by omega) h3, okL_of o_txt (by omega) h4, okL_of o_knd (by omega) h5⟩, okL_of o_tbl (by omega) hct.2, ⟨f1, f2, o_sr _ _ _ _ f3, o_sr _ _ _ _ f4, f5, okL_of o_int (by omega) f6⟩, o_ints _ _ _ _ hnd, hsq.2, okL_of o_row (by omega) hrw, ⟨g2, g3, okL_of o_cl (by omega) g4⟩, okL_of o_row (by omega) hfw, okL_of o_clm (by omega) hcm⟩
end Go.Proofs.YtjpnomkcinfonaaGreatDoor
/- What is read is written again. -/
namespace Go.Proofs.YtjpnomkcinfonaaGreatDoor
set_option linter.unusedVariables false
set_option linter.unusedSimpArgs false
/-- What a function reads it writes again. -/
def Back {α : Type} (f : St → α → α × St) (dd ok : α → Prop) : Prop := ∀ l d, dd d → failedP (f (.rd (ba l) false) d).2 = false → ∃ x t r, l = t ++ r ∧ f (.rd (ba l) false) d = (x, .rd (ba r) false) ∧ ok x ∧ ∀ b, (b ++ t).length ≤ 65536 → f (.wr b false) x = (x, .wr (b ++ t) false)
theorem back_oct : Back octP any (fun k => k < 256) := fun l d _ hf => by
  cases l with
  | nil => rw [oct_nil] at hf; cases hf
  | cons c r =>
    refine ⟨c.toNat, [c], r, rfl, oct_rd c r false d, UInt8.toNat_lt c, fun b _ => ?_⟩
    show (c.toNat, St.wr (b ++ [UInt8.ofNat c.toNat]) false) = _
    rw [UInt8.ofNat_toNat]
theorem rn_back (l : List UInt8) : ∀ f i acc, i + f = 9 → acc < 2 ^ (7 * i) → failedP (rnF (f + 1) i acc (.rd (ba l) false)).2 = false → ∃ n t r, l = t ++ r ∧ rnF (f + 1) i acc (.rd (ba l) false) = (acc + n * 2 ^ (7 * i), .rd (ba r) false) ∧ acc + n * 2 ^ (7 * i) < 18446744073709551616 ∧ (0 < i → 0 < n) ∧ vnF f n = t := by
  induction l with
  | nil =>
    intro f i acc hi ha hf
    rw [rnF] at hf
    simp only [oct_nil] at hf
    rw [if_neg (by omega)] at hf
    split at hf <;> simp [failedP, failP] at hf
  | cons c r ih =>
    intro f i acc hi ha hf
    have hc := UInt8.toNat_lt c
    have hcc : UInt8.ofNat c.toNat = c := UInt8.ofNat_toNat
    have hpw : 2 ^ (7 * i) ≤ (2 : Nat) ^ (7 * 9) := Nat.pow_le_pow_right (by omega) (by omega)
    have hp9 : (2 : Nat) ^ (7 * 9) = 9223372036854775808 := by decide
    rw [rnF] at hf ⊢
    simp only [oct_rd] at hf ⊢
    by_cases h : 128 ≤ c.toNat
    · rw [if_pos h] at hf ⊢
      cases f with
      | zero => simp [rnF, failP, failedP] at hf
      | succ f =>
        have hp8 : 2 ^ (7 * (i + 1)) ≤ (2 : Nat) ^ (7 * 9) := Nat.pow_le_pow_right (by omega) (by omega)
        have hp := pow7 i
        have hm : c.toNat % 128 * 2 ^ (7 * i) ≤ 127 * 2 ^ (7 * i) := Nat.mul_le_mul_right _ (by omega)
        have hlt : acc + c.toNat % 128 * 2 ^ (7 * i) < 2 ^ (7 * (i + 1)) := by omega
        rw [Nat.mod_eq_of_lt (by omega)] at hf ⊢
        obtain ⟨n, t, r', h1, h2, h3, h4, h5⟩ := ih f (i + 1) _ (by omega) hlt hf
        have hn := h4 (by omega)
        have e3 : acc + c.toNat % 128 * 2 ^ (7 * i) + n * 2 ^ (7 * (i + 1)) = acc + (c.toNat % 128 + 128 * n) * 2 ^ (7 * i) := by
          rw [hp, Nat.add_mul, ← Nat.mul_assoc, Nat.mul_comm n 128]; omega
        refine ⟨c.toNat % 128 + 128 * n, c :: t, r', by rw [h1]; rfl, by rw [h2, e3], by rw [← e3]; exact h3, fun _ => by omega, ?_⟩
        simp only [vnF]
        rw [if_neg (by omega)]
        have a1 : (c.toNat % 128 + 128 * n) % 128 + 128 = c.toNat := by omega
        have a2 : (c.toNat % 128 + 128 * n) / 128 = n := by omega
        rw [a1, a2, hcc, h5]
    · rw [if_neg h] at hf ⊢
      by_cases h2 : (c.toNat = 0 ∧ 0 < i) ∨ (1 < c.toNat ∧ i = 9)
      · rw [if_pos h2] at hf; simp [failP, failedP] at hf
      · rw [if_neg h2] at hf ⊢
        have hm : c.toNat % 128 = c.toNat := Nat.mod_eq_of_lt (by omega)
        have hlt : acc + c.toNat * 2 ^ (7 * i) < 18446744073709551616 := by
          by_cases h9 : i = 9
          · subst h9
            have : c.toNat ≤ 1 := by omega
            have := Nat.mul_le_mul_right (2 ^ (7 * 9)) this
            omega
          · have hp8 : 2 ^ (7 * (i + 1)) ≤ (2 : Nat) ^ (7 * 9) := Nat.pow_le_pow_right (by omega) (by omega)
            have hp := pow7 i
            have : c.toNat * 2 ^ (7 * i) ≤ 127 * 2 ^ (7 * i) := Nat.mul_le_mul_right _ (by omega)
            omega
        refine ⟨c.toNat, [c], r, rfl, ?_, hlt, fun _ => by omega, ?_⟩
        · rw [hm, Nat.mod_eq_of_lt hlt]
        · cases f with
          | zero => simp only [vnF, hcc]
          | succ f => simp only [vnF]; rw [if_pos (by omega), hcc]
theorem back_num : Back numP any (fun n => n < 18446744073709551616) := fun l d _ hf => by
  obtain ⟨n, t, r, h1, h2, h3, h4, h5⟩ := rn_back l 9 0 0 rfl (by decide) hf
  simp only [Nat.mul_zero, Nat.pow_zero, Nat.mul_one, Nat.zero_add] at h2 h3
  refine ⟨n, t, r, h1, h2, h3, fun b _ => ?_⟩
  show (n, St.wr (b ++ vn n) false) = _
  rw [← h5]; rfl
theorem back_via {α β : Type} {to_ : α → β} {of : β → α} {h : St → β → β × St} {dd ok : β → Prop} {dd2 ok2 : α → Prop} (ht : Back h dd ok) (hi : ∀ y, ok y → to_ (of y) = y) (hd : ∀ x, dd2 x → dd (to_ x)) (ho : ∀ y, ok y → ok2 (of y)) : Back (viaP to_ of h) dd2 ok2 := fun l d hdd hf => by
  obtain ⟨x, t, r, h1, h2, h3, h4⟩ := ht l (to_ d) (hd d hdd) hf
  refine ⟨of x, t, r, h1, ?_, ho x h3, fun b hb => ?_⟩
  · show (of (h _ _).1, (h _ _).2) = _
    rw [h2]
  · show (of (h _ _).1, (h _ _).2) = _
    rw [hi x h3, h4 b hb]
theorem back_seq {α β : Type} {f : St → α → α × St} {g : St → β → β × St} {d1 o1 : α → Prop} {d2 o2 : β → Prop} (hf : Back f d1 o1) (hg : Back g d2 o2) (hn : Nice g) : Back (seqP f g) (fun x => d1 x.1 ∧ d2 x.2) (fun x => o1 x.1 ∧ o2 x.2) := fun l d hd he => by
  obtain ⟨x, t, r, a1, a2, a3, a4⟩ := hf l d.1 hd.1 (nice_un hn he)
  have he2 : failedP (g (.rd (ba r) false) d.2).2 = false := by
    have : failedP (g (f (.rd (ba l) false) d.1).2 d.2).2 = false := he
    rw [a2] at this
    exact this
  obtain ⟨y, s, q, b1, b2, b3, b4⟩ := hg r d.2 hd.2 he2
  refine ⟨(x, y), t ++ s, q, by rw [a1, b1, List.append_assoc], ?_, ⟨a3, b3⟩, fun b hb => ?_⟩
  · show (((f _ _).1, (g (f _ _).2 _).1), (g (f _ _).2 _).2) = _
    rw [a2]
    simp only
    rw [b2]
  · simp only [List.length_append] at hb
    show (((f _ _).1, (g (f _ _).2 _).1), (g (f _ _).2 _).2) = _
    simp only
    rw [a4 b (by simp only [List.length_append]; omega)]
    simp only
    rw [b4 (b ++ t) (by simp only [List.length_append]; omega), List.append_assoc]
theorem zig_zagB (u : Nat) : zig (zag u) = u := by
  unfold zig zag
  split
  · rw [if_pos (by omega)]; omega
  · rw [if_neg (by omega)]; omega
theorem back_long : Back longP any I64 := back_via (to_ := zig) (of := zag) back_num (fun u _ => zig_zagB u) (fun _ _ => trivial) (fun u hu => by
  unfold zag I64
  split <;> omega)
theorem back_flag : Back flagP any any := fun l d _ hf => by
  cases l with
  | nil =>
    simp only [flagP, oct_nil] at hf
    simp [failedP] at hf
  | cons c r =>
    simp only [flagP, oct_rd] at hf ⊢
    by_cases h : 1 < c.toNat
    · rw [if_pos h] at hf; simp [failP, failedP] at hf
    · rw [if_neg h]
      refine ⟨c.toNat == 1, [c], r, rfl, rfl, trivial, fun b _ => ?_⟩
      have hcc : UInt8.ofNat c.toNat = c := UInt8.ofNat_toNat
      have h01 : (if (c.toNat == 1) = true then 1 else 0 : Nat) = c.toNat := by
        by_cases h1 : c.toNat = 1
        · simp [h1]
        · simp [h1]; omega
      rw [h01]
      simp only [octP, hcc]
      rw [if_neg h]
theorem back_txt : Back txtP any any := fun l d _ hf => by
  cases hs : failedP (rnF 10 0 0 (.rd (ba l) false)).2 with
  | true =>
    obtain ⟨r', f', hr⟩ := rnF_rd 10 0 0 (ba l) false
    obtain ⟨n, st, hn⟩ : ∃ n st, rnF 10 0 0 (.rd (ba l) false) = (n, st) := ⟨_, _, rfl⟩
    rw [hn] at hs hr
    simp only at hs hr
    subst hr
    simp only [failedP] at hs
    subst hs
    simp only [txtP, hn] at hf
    split at hf
    · simp [failedP] at hf
    · simp only [takeP] at hf
      split at hf <;> simp [failedP] at hf
  | false =>
    obtain ⟨n, t, r, h1, h2, h3, h4, h5⟩ := rn_back l 9 0 0 rfl (by decide) hs
    simp only [Nat.mul_zero, Nat.pow_zero, Nat.mul_one, Nat.zero_add] at h2 h3
    simp only [txtP, h2] at hf ⊢
    by_cases hm : 2048 < n
    · rw [if_pos hm] at hf; simp [failedP] at hf
    · rw [if_neg hm] at hf ⊢
      simp only [takeP] at hf ⊢
      by_cases hk : (ba r).size < n
      · rw [if_pos hk] at hf; simp [failedP] at hf
      · rw [if_neg hk]
        rw [ba_size] at hk
        refine ⟨ba (r.take n), t ++ r.take n, r.drop n, by rw [List.append_assoc, List.take_append_drop, h1], by rw [ba_take, ba_drop], trivial, fun b _ => ?_⟩
        have hsz : (ba (r.take n)).size = n := by rw [ba_size, List.length_take]; omega
        rw [hsz, if_neg hm]
        have h6 : vn n = t := h5
        rw [h6, List.append_assoc]
        simp [ba]
end Go.Proofs.YtjpnomkcinfonaaGreatDoor
/- .. of lists, values and the parts of a message. -/
namespace Go.Proofs.YtjpnomkcinfonaaGreatDoor
set_option linter.unusedVariables false
set_option linter.unusedSimpArgs false
theorem back_taken {α : Type} {part : St → α → α × St} {d : α} {ok : α → Prop} (hp : Back part (fun x => x = d) ok) (hn : Nice part) : ∀ n l acc, failedP (takenP part d n (.rd (ba l) false) acc).2 = false → ∃ xs t r, xs.length = n ∧ l = t ++ r ∧ takenP part d n (.rd (ba l) false) acc = (acc ++ xs, .rd (ba r) false) ∧ (∀ x ∈ xs, ok x) ∧ ∀ b, (b ++ t).length ≤ 65536 → eachP part (.wr b false) xs = .wr (b ++ t) false
  | 0, l, acc, hf => ⟨[], [], l, rfl, rfl, by simp [takenP], by simp, fun b _ => by simp [eachP]⟩
  | n + 1, l, acc, hf => by
    have hfr : failedP (.rd (ba l) false) = false := rfl
    simp only [takenP] at hf ⊢
    rw [if_neg (by rw [hfr]; simp)] at hf ⊢
    have h1 : failedP (part (.rd (ba l) false) d).2 = false := by
      cases hs : failedP (part (.rd (ba l) false) d).2 with
      | false => rfl
      | true => rw [(taken_nice hn d n _ _).2 hs] at hf; cases hf
    obtain ⟨x, t, r, a1, a2, a3, a4⟩ := hp l d rfl h1
    rw [a2] at hf ⊢
    obtain ⟨xs, s, q, b0, b1, b2, b3, b4⟩ := back_taken hp hn n r (acc ++ [x]) hf
    refine ⟨x :: xs, t ++ s, q, by simp [b0], by rw [a1, b1, List.append_assoc], by rw [b2]; simp, ?_, fun b hb => ?_⟩
    · intro y hy
      rcases List.mem_cons.1 hy with rfl | hy
      · exact a3
      · exact b3 y hy
    · simp only [List.length_append] at hb
      simp only [eachP]
      rw [if_neg (by simp [failedP]; omega), a4 b (by simp only [List.length_append]; omega)]
      simp only
      rw [b4 (b ++ t) (by simp only [List.length_append]; omega), List.append_assoc]
theorem back_list {α : Type} {part : St → α → α × St} (most : Nat) {d : α} {ok : α → Prop} (hp : Back part (fun x => x = d) ok) (hn : Nice part) : Back (listP most part d) any (fun l => l.length < 18446744073709551616 ∧ ∀ x ∈ l, ok x) := fun l d' _ hf => by
  simp only [listP] at hf
  have hr : St.reads (numP (.rd (ba l) false) d'.length).2 = true := by rw [numP_reads]; rfl
  have h1 : failedP (numP (.rd (ba l) false) d'.length).2 = false := by
    cases hs : failedP (numP (.rd (ba l) false) d'.length).2 with
    | false => rfl
    | true =>
      generalize numP (.rd (ba l) false) d'.length = w at hs hr hf
      have hb2 : failedP (if most < w.1 then failP w.2 else w.2) = true := (if_nice (c := most < w.1) ⟨rfl, fun h => h⟩).2 hs
      have hr2 : St.reads (if most < w.1 then failP w.2 else w.2) = true := by split <;> simp [failP_reads, hr]
      rw [if_pos hr2, (taken_nice hn d _ _ _).2 hb2] at hf
      cases hf
  obtain ⟨n, t, r, a1, a2, a3, a4⟩ := back_num l d'.length trivial h1
  rw [a2] at hf
  simp only at hf
  have hm : ¬ most < n := fun h => by
    rw [if_pos h] at hf
    rw [if_pos (by rfl), (taken_nice hn d _ _ _).2 rfl] at hf
    cases hf
  rw [if_neg hm, if_pos (by rfl)] at hf
  obtain ⟨xs, s, q, b0, b1, b2, b3, b4⟩ := back_taken hp hn n r [] hf
  refine ⟨xs, t ++ s, q, by rw [a1, b1, List.append_assoc], ?_, ⟨by omega, b3⟩, fun b hb => ?_⟩
  · simp only [listP]
    rw [a2]
    simp only
    rw [if_neg hm, if_pos (by rfl), b2]
    simp
  · simp only [List.length_append] at hb
    have e := a4 b (by simp only [List.length_append]; omega)
    have ht : vn n = t := by
      have e : (St.wr (b ++ vn n) false) = .wr (b ++ t) false := congrArg Prod.snd e
      simpa using e
    rw [list_wr most part d b xs (by omega), b0, ht, b4 (b ++ t) (by simp only [List.length_append]; omega), List.append_assoc]
theorem back_less {α : Type} {f : St → α → α × St} {d1 d2 o1 o2 : α → Prop} (h : Back f d1 o1) (hd : ∀ x, d2 x → d1 x) (ho : ∀ x, o1 x → o2 x) : Back f d2 o2 := fun l d hdd hf => by
  obtain ⟨x, t, r, a1, a2, a3, a4⟩ := h l d (hd d hdd) hf
  exact ⟨x, t, r, a1, a2, ho x a3, a4⟩
theorem to_eqB {α : Type} {f : St → α → α × St} {ok : α → Prop} {d : α} (h : Back f any ok) : Back f (fun x => x = d) ok := back_less h (fun _ _ => trivial) (fun _ h => h)
theorem back_valQ (k : Nat) (hk : k < 4) (l : List UInt8) (hf : failedP (valQ k (.rd (ba l) false) val0).2 = false) : ∃ v t r, l = t ++ r ∧ valQ k (.rd (ba l) false) val0 = (v, .rd (ba r) false) ∧ v.k = (k : Int) ∧ I64 v.n ∧ ∀ b, (b ++ t).length ≤ 65536 → valQ k (.wr b false) v = (v, .wr (b ++ t) false) := by
  rcases (show k = 0 ∨ k = 1 ∨ k = 2 ∨ k = 3 by omega) with rfl | rfl | rfl | rfl
  · exact ⟨val0, [], l, rfl, rfl, rfl, by simp [I64, val0], fun b _ => by rw [List.append_nil]; rfl⟩
  · obtain ⟨x, t, r, a1, a2, a3, a4⟩ := back_flag l false trivial hf
    refine ⟨⟨1, x, 0, s0⟩, t, r, a1, ?_, rfl, by simp [I64], fun b hb => ?_⟩
    · show ((⟨((1 : Nat) : Int), (flagP _ _).1, _, _⟩ : Val), (flagP _ _).2) = _
      rw [show val0.b = false from rfl, a2]; rfl
    · show ((⟨((1 : Nat) : Int), (flagP _ _).1, _, _⟩ : Val), (flagP _ _).2) = _
      rw [a4 b hb]; rfl
  · obtain ⟨x, t, r, a1, a2, a3, a4⟩ := back_long l 0 trivial hf
    refine ⟨⟨2, false, x, s0⟩, t, r, a1, ?_, rfl, a3, fun b hb => ?_⟩
    · show ((⟨((2 : Nat) : Int), _, (longP _ _).1, _⟩ : Val), (longP _ _).2) = _
      rw [show val0.n = 0 from rfl, a2]; rfl
    · show ((⟨((2 : Nat) : Int), _, (longP _ _).1, _⟩ : Val), (longP _ _).2) = _
      rw [a4 b hb]; rfl
  · obtain ⟨x, t, r, a1, a2, a3, a4⟩ := back_txt l s0 trivial hf
    refine ⟨⟨3, false, 0, x⟩, t, r, a1, ?_, rfl, by simp [I64], fun b hb => ?_⟩
    · show ((⟨((3 : Nat) : Int), _, _, (txtP _ _).1⟩ : Val), (txtP _ _).2) = _
      rw [show val0.s = s0 from rfl, a2]; rfl
    · show ((⟨((3 : Nat) : Int), _, _, (txtP _ _).1⟩ : Val), (txtP _ _).2) = _
      rw [a4 b hb]; rfl
theorem valQ_k (k : Nat) (st : St) (v : Val) : (valQ k st v).1.k = (k : Int) := by
  unfold valQ; split
  · rfl
  · split
    · rfl
    · split <;> rfl
theorem back_val : Back valP (fun v => v = val0) okVal := fun l d hd hf => by
  subst hd
  rw [valP_eq] at hf ⊢
  cases l with
  | nil => rw [oct_nil] at hf; rw [fin_bad (by rfl)] at hf; cases hf
  | cons c r =>
    have hc := UInt8.toNat_lt c
    have hcc : UInt8.ofNat c.toNat = c := UInt8.ofNat_toNat
    rw [oct_rd] at hf ⊢
    simp only at hf ⊢
    obtain ⟨hv, hf2⟩ := fin_ok hf
    have hk := (chk0 hv).1
    rw [valQ_k] at hk
    obtain ⟨v, t, q, a1, a2, a3, a4, a5⟩ := back_valQ c.toNat (by omega) r hf2
    rw [a2] at hv
    refine ⟨v, c :: t, q, by rw [a1]; rfl, by rw [a2, fin_eq hv], ⟨⟨by omega, by omega⟩, a4⟩, fun b hb => ?_⟩
    have hn : v.k.toNat = c.toNat := by rw [a3]; rfl
    rw [valP_eq, hn]
    show fin (valQ c.toNat (.wr (b ++ [UInt8.ofNat c.toNat]) false) v) = _
    rw [hcc, a5 (b ++ [c]) (by simpa using hb), fin_eq (show chkV (v, St.wr (b ++ [c] ++ t) false).1 = 0 from hv)]
    simp
theorem back_row : Back rowP any (okL okVal) := back_list 64 back_val nice_val
theorem back_rows : Back rowsP any (okL (okL okVal)) := back_list 512 (to_eqB back_row) nice_row
theorem back_ints : Back intsP any (okL I64) := back_list 64 (to_eqB back_long) nice_long
theorem back_stp : Back stpP any okStp := back_via (to_ := fun s : Stp => (s.k, s.t, s.n)) (of := fun q => ⟨q.1, q.2.1, q.2.2⟩) (h := seqP octP (seqP txtP longP)) (back_seq back_oct (back_seq back_txt back_long nice_long) (nice_seqP nice_txt nice_long)) (fun _ _ => rfl) (fun _ _ => ⟨trivial, trivial, trivial⟩) (fun x hx => ⟨hx.1, hx.2.2⟩)
theorem back_stps : Back stpsP any (okL okStp) := back_list 64 (to_eqB back_stp) nice_stp
theorem back_itm : Back itmP any okItm := back_via (to_ := fun s : Itm => (s.g, s.e)) (of := fun q => ⟨q.1, q.2⟩) (h := seqP octP stpsP) (back_seq back_oct back_stps nice_stps) (fun _ _ => rfl) (fun _ _ => ⟨trivial, trivial⟩) (fun x hx => hx)
theorem back_vrs : Back vrsP any okV := back_via (to_ := fun s : Vrs => (s.b, s.l)) (of := fun q => ⟨q.1, q.2⟩) (h := seqP numP numP) (back_seq back_num back_num nice_num) (fun _ _ => rfl) (fun _ _ => ⟨trivial, trivial⟩) (fun x hx => hx)
theorem back_sr : Back srP any okSr := back_via (to_ := fun s : Sr => (s.k, s.t, s.v, s.s, s.f)) (of := fun q => ⟨q.1, q.2.1, q.2.2.1, q.2.2.2.1, q.2.2.2.2⟩) (h := seqP octP (seqP txtP (seqP vrsP (seqP longP intsP)))) (back_seq back_oct (back_seq back_txt (back_seq back_vrs (back_seq back_long back_ints nice_ints) (nice_seqP nice_long nice_ints)) (nice_seqP nice_vrs (nice_seqP nice_long nice_ints))) (nice_seqP nice_txt (nice_seqP nice_vrs (nice_seqP nice_long nice_ints)))) (fun _ _ => rfl) (fun _ _ => ⟨trivial, trivial, trivial, trivial, trivial⟩) (fun x hx => ⟨hx.1, hx.2.2.1, hx.2.2.2.1, hx.2.2.2.2⟩)
theorem back_cl : Back clP any okCl := back_via (to_ := fun s : Cl => (s.n, s.k)) (of := fun q => ⟨q.1, q.2⟩) (h := seqP txtP octP) (back_seq back_txt back_oct nice_oct) (fun _ _ => rfl) (fun _ _ => ⟨trivial, trivial⟩) (fun x hx => hx.2)
theorem back_cls : Back clsP any (okL okCl) := back_list 64 (to_eqB back_cl) nice_cl
theorem back_owners : Back (listP 64 intsP []) any (okL (okL I64)) := back_list 64 (to_eqB back_ints) nice_ints
theorem back_clm : Back clmP any okClm := back_via (to_ := fun s : Clm => (s.t, s.c, s.v, s.o)) (of := fun q => ⟨q.1, q.2.1, q.2.2.1, q.2.2.2⟩) (h := seqP txtP (seqP clsP (seqP vrsP (listP 64 intsP [])))) (back_seq back_txt (back_seq back_cls (back_seq back_vrs back_owners nice_owners) (nice_seqP nice_vrs nice_owners)) (nice_seqP nice_cls (nice_seqP nice_vrs nice_owners))) (fun _ _ => rfl) (fun _ _ => ⟨trivial, trivial, trivial, trivial⟩) (fun x hx => ⟨hx.2.1, hx.2.2.1, hx.2.2.2⟩)
theorem back_tbl : Back tblP (fun t => t = tbl0) okTbl := fun l d hd hf => by
  subst hd
  have hs : ∀ st (u : Tbl), tblP st u = (⟨(seqP txtP clsP st (u.n, u.c)).1.1, (seqP txtP clsP st (u.n, u.c)).1.2, u.r⟩, if 0 < u.r.length then failP (seqP txtP clsP st (u.n, u.c)).2 else (seqP txtP clsP st (u.n, u.c)).2) := fun st u => rfl
  rw [hs] at hf
  rw [if_neg (show ¬ 0 < tbl0.r.length by decide)] at hf
  obtain ⟨x, t, r, a1, a2, a3, a4⟩ := back_seq back_txt back_cls nice_cls l (tbl0.n, tbl0.c) ⟨trivial, trivial⟩ hf
  refine ⟨⟨x.1, x.2, []⟩, t, r, a1, ?_, a3.2, fun b hb => ?_⟩
  · rw [hs, if_neg (show ¬ 0 < tbl0.r.length by decide), a2]; rfl
  · rw [hs]
    simp only
    rw [if_neg (by simp), show ((x.1, x.2) : ByteArray × List Cl) = x from rfl, a4 b hb]
theorem back_its : Back (listP 64 itmP itm0) any (okL okItm) := back_list 64 (to_eqB back_itm) nice_itm
theorem back_nms : Back (listP 64 txtP s0) any (okL (fun _ => True)) := back_list 64 (to_eqB back_txt) nice_txt
theorem back_kds : Back (listP 64 octP 0) any (okL (fun k => k < 256)) := back_list 64 (to_eqB back_oct) nice_oct
theorem back_tbls : Back (listP 64 tblP tbl0) any (okL okTbl) := back_list 64 back_tbl nice_tbl
theorem back_clms : Back (listP 64 clmP clm0) any (okL okClm) := back_list 64 (to_eqB back_clm) nice_clm
end Go.Proofs.YtjpnomkcinfonaaGreatDoor
/- .. and of a message. -/
namespace Go.Proofs.YtjpnomkcinfonaaGreatDoor
set_option linter.unusedVariables false
set_option linter.unusedSimpArgs false
set_option maxHeartbeats 4000000 in
theorem back_bnd : Back bndP any okBnd := by
  have n1 := nice_kds
  have n2 := nice_seqP nice_nms n1
  have n3 := nice_seqP nice_flag n2
  have n4 := nice_seqP nice_its n3
  have n5 := nice_seqP nice_ints n4
  have n6 := nice_seqP nice_stps n5
  have n7 := nice_seqP nice_long n6
  have n8 := nice_seqP nice_long n7
  have n9 := nice_seqP nice_long n8
  have m1 := nice_seqP nice_txt n9
  have hs := back_seq back_txt (back_seq back_txt (back_seq back_long (back_seq back_long (back_seq back_long (back_seq back_stps (back_seq back_ints (back_seq back_its (back_seq back_flag (back_seq back_nms back_kds n1) n2) n3) n4) n5) n6) n7) n8) n9) m1
  exact back_via (to_ := fun s : Bnd => (s.t, s.j, s.w, s.l, s.r, s.wh, s.g, s.i, s.gr, s.nm, s.kd)) (of := fun q => ⟨q.1, q.2.1, q.2.2.1, q.2.2.2.1, q.2.2.2.2.1, q.2.2.2.2.2.1, q.2.2.2.2.2.2.1, q.2.2.2.2.2.2.2.1, q.2.2.2.2.2.2.2.2.1, q.2.2.2.2.2.2.2.2.2.1, q.2.2.2.2.2.2.2.2.2.2⟩) hs (fun _ _ => rfl) (fun _ _ => ⟨trivial, trivial, trivial, trivial, trivial, trivial, trivial, trivial, trivial, trivial, trivial⟩) (fun x hx => ⟨hx.2.2.1, hx.2.2.2.1, hx.2.2.2.2.1, hx.2.2.2.2.2.1, hx.2.2.2.2.2.2.1, hx.2.2.2.2.2.2.2.1, hx.2.2.2.2.2.2.2.2.2.1, hx.2.2.2.2.2.2.2.2.2.2⟩)
set_option maxHeartbeats 1000000 in
theorem back_frg : Back frgP any okFrg := by
  have n1 := nice_ints
  have n2 := nice_seqP nice_long n1
  have n3 := nice_seqP nice_flag n2
  have n4 := nice_seqP nice_sr n3
  have n5 := nice_seqP nice_sr n4
  have n6 := nice_seqP nice_long n5
  have hs := back_seq back_long (back_seq back_long (back_seq back_sr (back_seq back_sr (back_seq back_flag (back_seq back_long back_ints n1) n2) n3) n4) n5) n6
  exact back_via (to_ := fun s : Frg => (s.id, s.nd, s.l, s.r, s.raw, s.by_, s.to)) (of := fun q => ⟨q.1, q.2.1, q.2.2.1, q.2.2.2.1, q.2.2.2.2.1, q.2.2.2.2.2.1, q.2.2.2.2.2.2⟩) hs (fun _ _ => rfl) (fun _ _ => ⟨trivial, trivial, trivial, trivial, trivial, trivial, trivial⟩) (fun x hx => ⟨hx.1, hx.2.1, hx.2.2.1, hx.2.2.2.1, hx.2.2.2.2.2.1, hx.2.2.2.2.2.2⟩)
theorem back_fh : Back fhP any okFh := by
  have n1 := nice_cls
  have n2 := nice_seqP nice_long n1
  have n3 := nice_seqP nice_vrs n2
  have hs := back_seq back_txt (back_seq back_vrs (back_seq back_long back_cls n1) n2) n3
  exact back_via (to_ := fun s : Fh => (s.t, s.v, s.s, s.c)) (of := fun q => ⟨q.1, q.2.1, q.2.2.1, q.2.2.2⟩) hs (fun _ _ => rfl) (fun _ _ => ⟨trivial, trivial, trivial, trivial⟩) (fun x hx => ⟨hx.2.1, hx.2.2.1, hx.2.2.2⟩)
/-- Two messages have a field alike. -/
def Ag (i : Nat) (x y : Mg) : Prop :=
  match i with
  | 0 => x.bt = y.bt
  | 1 => x.st.qb = y.st.qb ∧ x.st.qn = y.st.qn
  | 2 => x.st.at_ = y.st.at_
  | 3 => x.st.fr = y.st.fr
  | 4 => x.st.to = y.st.to
  | 5 => x.bd = y.bd
  | 6 => x.ct = y.ct
  | 7 => x.fg = y.fg
  | 8 => x.nd = y.nd
  | 9 => x.sq = y.sq
  | 10 => x.ls = y.ls
  | 11 => x.rw = y.rw
  | 12 => x.fl.t = y.fl.t ∧ x.fl.v = y.fl.v ∧ x.fl.s = y.fl.s ∧ x.fl.c = y.fl.c
  | 13 => x.fl.r = y.fl.r
  | 14 => x.cm = y.cm
  | _ => True
theorem Ag.symm {i : Nat} {x y : Mg} (h : Ag i x y) : Ag i y x := by
  match i, h with
  | 0, h => exact Eq.symm h
  | 1, h => exact ⟨h.1.symm, h.2.symm⟩
  | 2, h => exact Eq.symm h
  | 3, h => exact Eq.symm h
  | 4, h => exact Eq.symm h
  | 5, h => exact Eq.symm h
  | 6, h => exact Eq.symm h
  | 7, h => exact Eq.symm h
  | 8, h => exact Eq.symm h
  | 9, h => exact Eq.symm h
  | 10, h => exact Eq.symm h
  | 11, h => exact Eq.symm h
  | 12, h => exact ⟨h.1.symm, h.2.1.symm, h.2.2.1.symm, h.2.2.2.symm⟩
  | 13, h => exact Eq.symm h
  | 14, h => exact Eq.symm h
  | _ + 15, _ => exact trivial
theorem Ag.refl (i : Nat) (x : Mg) : Ag i x x := by
  match i with
  | 0 => exact rfl
  | 1 => exact ⟨rfl, rfl⟩
  | 2 => exact rfl
  | 3 => exact rfl
  | 4 => exact rfl
  | 5 => exact rfl
  | 6 => exact rfl
  | 7 => exact rfl
  | 8 => exact rfl
  | 9 => exact rfl
  | 10 => exact rfl
  | 11 => exact rfl
  | 12 => exact ⟨rfl, rfl, rfl, rfl⟩
  | 13 => exact rfl
  | 14 => exact rfl
  | _ + 15 => exact trivial
theorem Ag.trans {i : Nat} {x y z : Mg} (h : Ag i x y) (h' : Ag i y z) : Ag i x z := by
  match i, h, h' with
  | 0, h, g => exact Eq.trans h g
  | 1, h, g => exact ⟨h.1.trans g.1, h.2.trans g.2⟩
  | 2, h, g => exact Eq.trans h g
  | 3, h, g => exact Eq.trans h g
  | 4, h, g => exact Eq.trans h g
  | 5, h, g => exact Eq.trans h g
  | 6, h, g => exact Eq.trans h g
  | 7, h, g => exact Eq.trans h g
  | 8, h, g => exact Eq.trans h g
  | 9, h, g => exact Eq.trans h g
  | 10, h, g => exact Eq.trans h g
  | 11, h, g => exact Eq.trans h g
  | 12, h, g => exact ⟨h.1.trans g.1, h.2.1.trans g.2.1, h.2.2.1.trans g.2.2.1, h.2.2.2.trans g.2.2.2⟩
  | 13, h, g => exact Eq.trans h g
  | 14, h, g => exact Eq.trans h g
  | _ + 15, _, _ => exact trivial
/-- A message is its kind and its fields. -/
theorem ag_all {x y : Mg} (hk : x.k = y.k) (h : ∀ i, i < 15 → Ag i x y) : x = y := by
  have h0 := h 0 (by omega)
  have h1 := h 1 (by omega)
  have h2 := h 2 (by omega)
  have h3 := h 3 (by omega)
  have h4 := h 4 (by omega)
  have h5 := h 5 (by omega)
  have h6 := h 6 (by omega)
  have h7 := h 7 (by omega)
  have h8 := h 8 (by omega)
  have h9 := h 9 (by omega)
  have h10 := h 10 (by omega)
  have h11 := h 11 (by omega)
  have h12 := h 12 (by omega)
  have h13 := h 13 (by omega)
  have h14 := h 14 (by omega)
  obtain ⟨k, bt, ⟨qb, qn, at_, fr, tq⟩, bd, ct, fg, nd, sq, ls, rw_, ⟨t, v, s, c, r⟩, cm⟩ := x
  obtain ⟨k', bt', ⟨qb', qn', at_', fr', tq'⟩, bd', ct', fg', nd', sq', ls', rw_', ⟨t', v', s', c', r'⟩, cm'⟩ := y
  simp only [Ag] at h0 h1 h2 h3 h4 h5 h6 h7 h8 h9 h10 h11 h12 h13 h14
  obtain ⟨rfl, rfl⟩ := h1
  obtain ⟨rfl, rfl, rfl, rfl⟩ := h12
  simp only at hk
  subst hk h0 h2 h3 h4 h5 h6 h7 h8 h9 h10 h11 h13 h14
  rfl
/-- What is read of a field is written again. -/
def FB (i : Nat) : Prop := ∀ l y, failedP (fldP i (.rd (ba l) false) y).2 = false → ∃ y' t r, l = t ++ r ∧ fldP i (.rd (ba l) false) y = (y', .rd (ba r) false) ∧ (∀ j, j < 15 → j ≠ i → Ag j y y') ∧ y'.k = y.k ∧ ∀ z b, Ag i z y' → (b ++ t).length ≤ 65536 → fldP i (.wr b false) z = (z, .wr (b ++ t) false)
theorem fb_of {α : Type} {g : St → α → α × St} {ok : α → Prop} (i : Nat) (pr : Mg → α) (up : Mg → α → Mg) (hu : ∀ x, up x (pr x) = x) (hp : ∀ y a, pr (up y a) = a) (hag : ∀ z y, Ag i z y → pr z = pr y) (hot : ∀ y a j, j < 15 → j ≠ i → Ag j y (up y a)) (hk : ∀ y a, (up y a).k = y.k) (hg : ∀ st y, fldP i st y = (up y (g st (pr y)).1, (g st (pr y)).2)) (ht : Back g any ok) : FB i := fun l y hf => by
  rw [hg] at hf
  obtain ⟨x, t, r, h1, h2, h3, h4⟩ := ht l (pr y) trivial hf
  refine ⟨up y x, t, r, h1, by rw [hg, h2], hot y x, hk y x, fun z b hz hb => ?_⟩
  have e : pr z = x := (hag z _ hz).trans (hp y x)
  rw [hg, e, h4 b hb]
  simp only
  rw [← e, hu]
theorem ag_oth (i : Nat) (y z : Mg) (P : Nat → Prop) (h : ∀ j, j < 15 → j ≠ i → Ag j y z) : ∀ j, j < 15 → j ≠ i → Ag j y z := h
theorem fo0 (y : Mg) (a : Nat) : ∀ j, j < 15 → j ≠ 0 → Ag j y ({ y with bt := a }) := fun j hj hne => by
  match j, hj, hne with
  | 0, _, hne => exact absurd rfl hne
  | 1, _, hne => exact ⟨rfl, rfl⟩
  | 2, _, hne => exact rfl
  | 3, _, hne => exact rfl
  | 4, _, hne => exact rfl
  | 5, _, hne => exact rfl
  | 6, _, hne => exact rfl
  | 7, _, hne => exact rfl
  | 8, _, hne => exact rfl
  | 9, _, hne => exact rfl
  | 10, _, hne => exact rfl
  | 11, _, hne => exact rfl
  | 12, _, hne => exact ⟨rfl, rfl, rfl, rfl⟩
  | 13, _, hne => exact rfl
  | 14, _, hne => exact rfl
theorem fo1 (y : Mg) (a : Vrs) : ∀ j, j < 15 → j ≠ 1 → Ag j y ({ y with st := { y.st with qb := a.b, qn := a.l } }) := fun j hj hne => by
  match j, hj, hne with
  | 0, _, hne => exact rfl
  | 1, _, hne => exact absurd rfl hne
  | 2, _, hne => exact rfl
  | 3, _, hne => exact rfl
  | 4, _, hne => exact rfl
  | 5, _, hne => exact rfl
  | 6, _, hne => exact rfl
  | 7, _, hne => exact rfl
  | 8, _, hne => exact rfl
  | 9, _, hne => exact rfl
  | 10, _, hne => exact rfl
  | 11, _, hne => exact rfl
  | 12, _, hne => exact ⟨rfl, rfl, rfl, rfl⟩
  | 13, _, hne => exact rfl
  | 14, _, hne => exact rfl
theorem fo2 (y : Mg) (a : Int) : ∀ j, j < 15 → j ≠ 2 → Ag j y ({ y with st := { y.st with at_ := a } }) := fun j hj hne => by
  match j, hj, hne with
  | 0, _, hne => exact rfl
  | 1, _, hne => exact ⟨rfl, rfl⟩
  | 2, _, hne => exact absurd rfl hne
  | 3, _, hne => exact rfl
  | 4, _, hne => exact rfl
  | 5, _, hne => exact rfl
  | 6, _, hne => exact rfl
  | 7, _, hne => exact rfl
  | 8, _, hne => exact rfl
  | 9, _, hne => exact rfl
  | 10, _, hne => exact rfl
  | 11, _, hne => exact rfl
  | 12, _, hne => exact ⟨rfl, rfl, rfl, rfl⟩
  | 13, _, hne => exact rfl
  | 14, _, hne => exact rfl
theorem fo3 (y : Mg) (a : Int) : ∀ j, j < 15 → j ≠ 3 → Ag j y ({ y with st := { y.st with fr := a } }) := fun j hj hne => by
  match j, hj, hne with
  | 0, _, hne => exact rfl
  | 1, _, hne => exact ⟨rfl, rfl⟩
  | 2, _, hne => exact rfl
  | 3, _, hne => exact absurd rfl hne
  | 4, _, hne => exact rfl
  | 5, _, hne => exact rfl
  | 6, _, hne => exact rfl
  | 7, _, hne => exact rfl
  | 8, _, hne => exact rfl
  | 9, _, hne => exact rfl
  | 10, _, hne => exact rfl
  | 11, _, hne => exact rfl
  | 12, _, hne => exact ⟨rfl, rfl, rfl, rfl⟩
  | 13, _, hne => exact rfl
  | 14, _, hne => exact rfl
theorem fo4 (y : Mg) (a : Int) : ∀ j, j < 15 → j ≠ 4 → Ag j y ({ y with st := ⟨y.st.qb, y.st.qn, y.st.at_, y.st.fr, a⟩ }) := fun j hj hne => by
  match j, hj, hne with
  | 0, _, hne => exact rfl
  | 1, _, hne => exact ⟨rfl, rfl⟩
  | 2, _, hne => exact rfl
  | 3, _, hne => exact rfl
  | 4, _, hne => exact absurd rfl hne
  | 5, _, hne => exact rfl
  | 6, _, hne => exact rfl
  | 7, _, hne => exact rfl
  | 8, _, hne => exact rfl
  | 9, _, hne => exact rfl
  | 10, _, hne => exact rfl
  | 11, _, hne => exact rfl
  | 12, _, hne => exact ⟨rfl, rfl, rfl, rfl⟩
  | 13, _, hne => exact rfl
  | 14, _, hne => exact rfl
theorem fo5 (y : Mg) (a : Bnd) : ∀ j, j < 15 → j ≠ 5 → Ag j y ({ y with bd := a }) := fun j hj hne => by
  match j, hj, hne with
  | 0, _, hne => exact rfl
  | 1, _, hne => exact ⟨rfl, rfl⟩
  | 2, _, hne => exact rfl
  | 3, _, hne => exact rfl
  | 4, _, hne => exact rfl
  | 5, _, hne => exact absurd rfl hne
  | 6, _, hne => exact rfl
  | 7, _, hne => exact rfl
  | 8, _, hne => exact rfl
  | 9, _, hne => exact rfl
  | 10, _, hne => exact rfl
  | 11, _, hne => exact rfl
  | 12, _, hne => exact ⟨rfl, rfl, rfl, rfl⟩
  | 13, _, hne => exact rfl
  | 14, _, hne => exact rfl
theorem fo6 (y : Mg) (a : List Tbl) : ∀ j, j < 15 → j ≠ 6 → Ag j y ({ y with ct := a }) := fun j hj hne => by
  match j, hj, hne with
  | 0, _, hne => exact rfl
  | 1, _, hne => exact ⟨rfl, rfl⟩
  | 2, _, hne => exact rfl
  | 3, _, hne => exact rfl
  | 4, _, hne => exact rfl
  | 5, _, hne => exact rfl
  | 6, _, hne => exact absurd rfl hne
  | 7, _, hne => exact rfl
  | 8, _, hne => exact rfl
  | 9, _, hne => exact rfl
  | 10, _, hne => exact rfl
  | 11, _, hne => exact rfl
  | 12, _, hne => exact ⟨rfl, rfl, rfl, rfl⟩
  | 13, _, hne => exact rfl
  | 14, _, hne => exact rfl
theorem fo7 (y : Mg) (a : Frg) : ∀ j, j < 15 → j ≠ 7 → Ag j y ({ y with fg := a }) := fun j hj hne => by
  match j, hj, hne with
  | 0, _, hne => exact rfl
  | 1, _, hne => exact ⟨rfl, rfl⟩
  | 2, _, hne => exact rfl
  | 3, _, hne => exact rfl
  | 4, _, hne => exact rfl
  | 5, _, hne => exact rfl
  | 6, _, hne => exact rfl
  | 7, _, hne => exact absurd rfl hne
  | 8, _, hne => exact rfl
  | 9, _, hne => exact rfl
  | 10, _, hne => exact rfl
  | 11, _, hne => exact rfl
  | 12, _, hne => exact ⟨rfl, rfl, rfl, rfl⟩
  | 13, _, hne => exact rfl
  | 14, _, hne => exact rfl
theorem fo8 (y : Mg) (a : List Int) : ∀ j, j < 15 → j ≠ 8 → Ag j y ({ y with nd := a }) := fun j hj hne => by
  match j, hj, hne with
  | 0, _, hne => exact rfl
  | 1, _, hne => exact ⟨rfl, rfl⟩
  | 2, _, hne => exact rfl
  | 3, _, hne => exact rfl
  | 4, _, hne => exact rfl
  | 5, _, hne => exact rfl
  | 6, _, hne => exact rfl
  | 7, _, hne => exact rfl
  | 8, _, hne => exact absurd rfl hne
  | 9, _, hne => exact rfl
  | 10, _, hne => exact rfl
  | 11, _, hne => exact rfl
  | 12, _, hne => exact ⟨rfl, rfl, rfl, rfl⟩
  | 13, _, hne => exact rfl
  | 14, _, hne => exact rfl
theorem fo9 (y : Mg) (a : Nat) : ∀ j, j < 15 → j ≠ 9 → Ag j y ({ y with sq := a }) := fun j hj hne => by
  match j, hj, hne with
  | 0, _, hne => exact rfl
  | 1, _, hne => exact ⟨rfl, rfl⟩
  | 2, _, hne => exact rfl
  | 3, _, hne => exact rfl
  | 4, _, hne => exact rfl
  | 5, _, hne => exact rfl
  | 6, _, hne => exact rfl
  | 7, _, hne => exact rfl
  | 8, _, hne => exact rfl
  | 9, _, hne => exact absurd rfl hne
  | 10, _, hne => exact rfl
  | 11, _, hne => exact rfl
  | 12, _, hne => exact ⟨rfl, rfl, rfl, rfl⟩
  | 13, _, hne => exact rfl
  | 14, _, hne => exact rfl
theorem fo10 (y : Mg) (a : Bool) : ∀ j, j < 15 → j ≠ 10 → Ag j y ({ y with ls := a }) := fun j hj hne => by
  match j, hj, hne with
  | 0, _, hne => exact rfl
  | 1, _, hne => exact ⟨rfl, rfl⟩
  | 2, _, hne => exact rfl
  | 3, _, hne => exact rfl
  | 4, _, hne => exact rfl
  | 5, _, hne => exact rfl
  | 6, _, hne => exact rfl
  | 7, _, hne => exact rfl
  | 8, _, hne => exact rfl
  | 9, _, hne => exact rfl
  | 10, _, hne => exact absurd rfl hne
  | 11, _, hne => exact rfl
  | 12, _, hne => exact ⟨rfl, rfl, rfl, rfl⟩
  | 13, _, hne => exact rfl
  | 14, _, hne => exact rfl
theorem fo11 (y : Mg) (a : List (List Val)) : ∀ j, j < 15 → j ≠ 11 → Ag j y ({ y with rw := a }) := fun j hj hne => by
  match j, hj, hne with
  | 0, _, hne => exact rfl
  | 1, _, hne => exact ⟨rfl, rfl⟩
  | 2, _, hne => exact rfl
  | 3, _, hne => exact rfl
  | 4, _, hne => exact rfl
  | 5, _, hne => exact rfl
  | 6, _, hne => exact rfl
  | 7, _, hne => exact rfl
  | 8, _, hne => exact rfl
  | 9, _, hne => exact rfl
  | 10, _, hne => exact rfl
  | 11, _, hne => exact absurd rfl hne
  | 12, _, hne => exact ⟨rfl, rfl, rfl, rfl⟩
  | 13, _, hne => exact rfl
  | 14, _, hne => exact rfl
theorem fo12 (y : Mg) (a : Fh) : ∀ j, j < 15 → j ≠ 12 → Ag j y ({ y with fl := { y.fl with t := a.t, v := a.v, s := a.s, c := a.c } }) := fun j hj hne => by
  match j, hj, hne with
  | 0, _, hne => exact rfl
  | 1, _, hne => exact ⟨rfl, rfl⟩
  | 2, _, hne => exact rfl
  | 3, _, hne => exact rfl
  | 4, _, hne => exact rfl
  | 5, _, hne => exact rfl
  | 6, _, hne => exact rfl
  | 7, _, hne => exact rfl
  | 8, _, hne => exact rfl
  | 9, _, hne => exact rfl
  | 10, _, hne => exact rfl
  | 11, _, hne => exact rfl
  | 12, _, hne => exact absurd rfl hne
  | 13, _, hne => exact rfl
  | 14, _, hne => exact rfl
theorem fo13 (y : Mg) (a : List (List Val)) : ∀ j, j < 15 → j ≠ 13 → Ag j y ({ y with fl := { y.fl with r := a } }) := fun j hj hne => by
  match j, hj, hne with
  | 0, _, hne => exact rfl
  | 1, _, hne => exact ⟨rfl, rfl⟩
  | 2, _, hne => exact rfl
  | 3, _, hne => exact rfl
  | 4, _, hne => exact rfl
  | 5, _, hne => exact rfl
  | 6, _, hne => exact rfl
  | 7, _, hne => exact rfl
  | 8, _, hne => exact rfl
  | 9, _, hne => exact rfl
  | 10, _, hne => exact rfl
  | 11, _, hne => exact rfl
  | 12, _, hne => exact ⟨rfl, rfl, rfl, rfl⟩
  | 13, _, hne => exact absurd rfl hne
  | 14, _, hne => exact rfl
theorem fo14 (y : Mg) (a : List Clm) : ∀ j, j < 15 → j ≠ 14 → Ag j y ({ y with cm := a }) := fun j hj hne => by
  match j, hj, hne with
  | 0, _, hne => exact rfl
  | 1, _, hne => exact ⟨rfl, rfl⟩
  | 2, _, hne => exact rfl
  | 3, _, hne => exact rfl
  | 4, _, hne => exact rfl
  | 5, _, hne => exact rfl
  | 6, _, hne => exact rfl
  | 7, _, hne => exact rfl
  | 8, _, hne => exact rfl
  | 9, _, hne => exact rfl
  | 10, _, hne => exact rfl
  | 11, _, hne => exact rfl
  | 12, _, hne => exact ⟨rfl, rfl, rfl, rfl⟩
  | 13, _, hne => exact rfl
  | 14, _, hne => exact absurd rfl hne
theorem fbs (i : Nat) (hi : i < 15) : FB i := by
  match i, hi with
  | 0, _ => exact fb_of 0 (fun y => y.bt) (fun y a => { y with bt := a }) (fun _ => rfl) (fun _ _ => rfl) (fun z y h => h) (fun y a => fo0 y a) (fun _ _ => rfl) (fun _ _ => rfl) back_num
  | 1, _ => exact fb_of 1 (fun y => (⟨y.st.qb, y.st.qn⟩ : Vrs)) (fun y a => { y with st := { y.st with qb := a.b, qn := a.l } }) (fun _ => rfl) (fun _ _ => rfl) (fun z y h => by have h1 := h.1; have h2 := h.2; rw [h1, h2]) (fun y a => fo1 y a) (fun _ _ => rfl) (fun _ _ => rfl) back_vrs
  | 2, _ => exact fb_of 2 (fun y => y.st.at_) (fun y a => { y with st := { y.st with at_ := a } }) (fun _ => rfl) (fun _ _ => rfl) (fun z y h => h) (fun y a => fo2 y a) (fun _ _ => rfl) (fun _ _ => rfl) back_long
  | 3, _ => exact fb_of 3 (fun y => y.st.fr) (fun y a => { y with st := { y.st with fr := a } }) (fun _ => rfl) (fun _ _ => rfl) (fun z y h => h) (fun y a => fo3 y a) (fun _ _ => rfl) (fun _ _ => rfl) back_long
  | 4, _ => exact fb_of 4 (fun y => y.st.to) (fun y a => { y with st := ⟨y.st.qb, y.st.qn, y.st.at_, y.st.fr, a⟩ }) (fun _ => rfl) (fun _ _ => rfl) (fun z y h => h) (fun y a => fo4 y a) (fun _ _ => rfl) (fun _ _ => rfl) back_long
  | 5, _ => exact fb_of 5 (fun y => y.bd) (fun y a => { y with bd := a }) (fun _ => rfl) (fun _ _ => rfl) (fun z y h => h) (fun y a => fo5 y a) (fun _ _ => rfl) (fun _ _ => rfl) back_bnd
  | 6, _ => exact fb_of 6 (fun y => y.ct) (fun y a => { y with ct := a }) (fun _ => rfl) (fun _ _ => rfl) (fun z y h => h) (fun y a => fo6 y a) (fun _ _ => rfl) (fun _ _ => rfl) back_tbls
  | 7, _ => exact fb_of 7 (fun y => y.fg) (fun y a => { y with fg := a }) (fun _ => rfl) (fun _ _ => rfl) (fun z y h => h) (fun y a => fo7 y a) (fun _ _ => rfl) (fun _ _ => rfl) back_frg
  | 8, _ => exact fb_of 8 (fun y => y.nd) (fun y a => { y with nd := a }) (fun _ => rfl) (fun _ _ => rfl) (fun z y h => h) (fun y a => fo8 y a) (fun _ _ => rfl) (fun _ _ => rfl) back_ints
  | 9, _ => exact fb_of 9 (fun y => y.sq) (fun y a => { y with sq := a }) (fun _ => rfl) (fun _ _ => rfl) (fun z y h => h) (fun y a => fo9 y a) (fun _ _ => rfl) (fun _ _ => rfl) back_num
  | 10, _ => exact fb_of 10 (fun y => y.ls) (fun y a => { y with ls := a }) (fun _ => rfl) (fun _ _ => rfl) (fun z y h => h) (fun y a => fo10 y a) (fun _ _ => rfl) (fun _ _ => rfl) back_flag
  | 11, _ => exact fb_of 11 (fun y => y.rw) (fun y a => { y with rw := a }) (fun _ => rfl) (fun _ _ => rfl) (fun z y h => h) (fun y a => fo11 y a) (fun _ _ => rfl) (fun _ _ => rfl) back_rows
  | 12, _ => exact fb_of 12 (fun y => (⟨y.fl.t, y.fl.v, y.fl.s, y.fl.c⟩ : Fh)) (fun y a => { y with fl := { y.fl with t := a.t, v := a.v, s := a.s, c := a.c } }) (fun _ => rfl) (fun _ _ => rfl) (fun z y h => by have h1 := h.1; have h2 := h.2.1; have h3 := h.2.2.1; have h4 := h.2.2.2; rw [h1, h2, h3, h4]) (fun y a => fo12 y a) (fun _ _ => rfl) (fun _ _ => rfl) back_fh
  | 13, _ => exact fb_of 13 (fun y => y.fl.r) (fun y a => { y with fl := { y.fl with r := a } }) (fun _ => rfl) (fun _ _ => rfl) (fun z y h => h) (fun y a => fo13 y a) (fun _ _ => rfl) (fun _ _ => rfl) back_rows
  | 14, _ => exact fb_of 14 (fun y => y.cm) (fun y a => { y with cm := a }) (fun _ => rfl) (fun _ _ => rfl) (fun z y h => h) (fun y a => fo14 y a) (fun _ _ => rfl) (fun _ _ => rfl) back_clms
theorem back_go : ∀ n i l y, i + n = 15 → failedP (goP true n i (.rd (ba l) false) y).2 = false → ∃ y' t r, l = t ++ r ∧ goP true n i (.rd (ba l) false) y = (y', .rd (ba r) false) ∧ y'.k = y.k ∧ (∀ j, j < 15 → (j < i ∨ ¬ (ofK.getD j []).contains y.k = true) → Ag j y y') ∧ ∀ b, (b ++ t).length ≤ 65536 → goP true n i (.wr b false) y' = (y', .wr (b ++ t) false)
  | 0, i, l, y, hi, hf => ⟨y, [], l, rfl, rfl, rfl, fun j _ _ => Ag.refl j y, fun b _ => by simp [goP]⟩
  | n + 1, i, l, y, hi, hf => by
    simp only [goP] at hf ⊢
    by_cases hc : (ofK.getD i []).contains y.k = true
    · rw [if_pos hc] at hf ⊢
      have h1 : failedP (fldP i (.rd (ba l) false) y).2 = false := by
        cases hs : failedP (fldP i (.rd (ba l) false) y).2 with
        | false => rfl
        | true => rw [go_stick true n (i + 1) _ _ hs] at hf; cases hf
      obtain ⟨y1, t, r, a1, a2, a3, a4, a5⟩ := fbs i (by omega) l y h1
      rw [a2] at hf ⊢
      obtain ⟨y2, s, q, b1, b2, b3, b4, b5⟩ := back_go n (i + 1) r y1 (by omega) hf
      refine ⟨y2, t ++ s, q, by rw [a1, b1, List.append_assoc], b2, b3.trans a4, fun j hj hh => ?_, fun b hb => ?_⟩
      · have hne : j ≠ i := by
          rcases hh with hh | hh
          · omega
          · intro e; subst e; exact hh hc
        exact (a3 j hj hne).trans (b4 j hj (by
          rcases hh with hh | hh
          · exact .inl (by omega)
          · exact .inr (by rw [a4]; exact hh)))
      · simp only [List.length_append] at hb
        rw [b3, a4, if_pos hc, a5 y2 b (b4 i (by omega) (.inl (by omega))).symm (by simp only [List.length_append]; omega)]
        simp only
        rw [b5 (b ++ t) (by simp only [List.length_append]; omega), List.append_assoc]
    · rw [if_neg hc] at hf ⊢
      obtain ⟨y2, s, q, b1, b2, b3, b4, b5⟩ := back_go n (i + 1) l y (by omega) hf
      refine ⟨y2, s, q, b1, b2, b3, fun j hj hh => b4 j hj (hh.imp (fun h => by omega) (fun h => h)), fun b hb => ?_⟩
      rw [b3, if_neg hc]
      exact b5 b hb
end Go.Proofs.YtjpnomkcinfonaaGreatDoor
/- What is blank. -/
namespace Go.Proofs.YtjpnomkcinfonaaGreatDoor
set_option linter.unusedVariables false
set_option linter.unusedSimpArgs false
/-- A blank port lets pass z alone. -/
def Blk {α : Type} (f : St → α → α × St) (z : α) : Prop := f (.bl false) z = (z, .bl false) ∧ ∀ x, failedP (f (.bl false) x).2 = false → x = z
theorem blk_oct : Blk octP 0 := ⟨rfl, fun x h => by
  simp only [octP] at h
  by_cases hx : x = 0
  · exact hx
  · rw [if_neg hx] at h; simp [failedP] at h⟩
theorem blk_num : Blk numP 0 := ⟨rfl, fun x h => by
  simp only [numP] at h
  by_cases hx : x = 0
  · exact hx
  · rw [if_neg hx] at h; simp [failedP] at h⟩
theorem blk_txt : Blk txtP s0 := ⟨rfl, fun x h => by
  simp only [txtP] at h
  by_cases hx : x.size = 0
  · exact ba_ext (show x.data = #[] from Array.size_eq_zero_iff.1 hx)
  · rw [if_neg hx] at h; simp [failedP] at h⟩
theorem blk_flag : Blk flagP false := ⟨rfl, fun x h => by cases x with
  | false => rfl
  | true => simp [flagP, octP, failedP] at h⟩
theorem blk_via {α β : Type} {to_ : α → β} {of : β → α} {h : St → β → β × St} {z : β} (hb : Blk h z) (h1 : to_ (of z) = z) (h2 : ∀ x, of (to_ x) = x) : Blk (viaP to_ of h) (of z) := by
  refine ⟨?_, fun x hx => ?_⟩
  · show (of (h _ _).1, (h _ _).2) = _
    rw [h1, hb.1]
  · have := hb.2 (to_ x) hx
    rw [← h2 x, this]
theorem blk_seq {α β : Type} {f : St → α → α × St} {g : St → β → β × St} {a : α} {b : β} (hf : Blk f a) (hg : Blk g b) (hn : Nice g) : Blk (seqP f g) (a, b) := by
  refine ⟨?_, fun x hx => ?_⟩
  · show (((f _ _).1, (g (f _ _).2 _).1), (g (f _ _).2 _).2) = _
    simp only
    rw [hf.1]
    simp only
    rw [hg.1]
  · have h1 := hf.2 x.1 (nice_un hn hx)
    have h2 : failedP (g (f (.bl false) x.1).2 x.2).2 = false := hx
    rw [h1, hf.1] at h2
    have h3 := hg.2 x.2 h2
    exact Prod.ext h1 h3
theorem blk_long : Blk longP 0 := blk_via (to_ := zig) (of := zag) (z := 0) blk_num rfl zag_zig
theorem blk_list {α : Type} {part : St → α → α × St} (most : Nat) (d : α) : Blk (listP most part d) [] := by
  refine ⟨?_, fun x hx => ?_⟩
  · simp [listP, numP, St.reads, eachP]
  · cases x with
    | nil => rfl
    | cons a l =>
      exfalso
      have e : (if most < (numP (.bl false) (a :: l).length).1 then failP (numP (.bl false) (a :: l).length).2 else (numP (.bl false) (a :: l).length).2) = .bl true := by
        have : (numP (.bl false) (a :: l).length) = ((a :: l).length, .bl true) := by simp [numP]
        rw [this]
        split <;> rfl
      simp only [listP] at hx
      rw [e] at hx
      simp [St.reads, eachP, failedP] at hx
theorem blk_vrs : Blk vrsP ⟨0, 0⟩ := blk_via (to_ := fun s : Vrs => (s.b, s.l)) (of := fun q => ⟨q.1, q.2⟩) (h := seqP numP numP) (blk_seq blk_num blk_num nice_num) rfl (fun _ => rfl)
theorem blk_sr : Blk srP ⟨0, s0, ⟨0, 0⟩, 0, []⟩ := blk_via (to_ := fun s : Sr => (s.k, s.t, s.v, s.s, s.f)) (of := fun q => ⟨q.1, q.2.1, q.2.2.1, q.2.2.2.1, q.2.2.2.2⟩) (h := seqP octP (seqP txtP (seqP vrsP (seqP longP intsP)))) (z := (0, s0, ⟨0, 0⟩, 0, [])) (blk_seq blk_oct (blk_seq blk_txt (blk_seq blk_vrs (blk_seq blk_long (blk_list 64 0) nice_ints) (nice_seqP nice_long nice_ints)) (nice_seqP nice_vrs (nice_seqP nice_long nice_ints))) (nice_seqP nice_txt (nice_seqP nice_vrs (nice_seqP nice_long nice_ints)))) rfl (fun _ => rfl)
set_option maxHeartbeats 4000000 in
theorem blk_bnd : Blk bndP bnd0 := by
  have n1 := nice_kds
  have n2 := nice_seqP nice_nms n1
  have n3 := nice_seqP nice_flag n2
  have n4 := nice_seqP nice_its n3
  have n5 := nice_seqP nice_ints n4
  have n6 := nice_seqP nice_stps n5
  have n7 := nice_seqP nice_long n6
  have n8 := nice_seqP nice_long n7
  have n9 := nice_seqP nice_long n8
  have m1 := nice_seqP nice_txt n9
  have hs := blk_seq blk_txt (blk_seq blk_txt (blk_seq blk_long (blk_seq blk_long (blk_seq blk_long (blk_seq (f := stpsP) (blk_list 64 _) (blk_seq (f := intsP) (blk_list 64 _) (blk_seq (f := listP 64 itmP itm0) (blk_list 64 _) (blk_seq blk_flag (blk_seq (f := listP 64 txtP s0) (blk_list 64 _) (blk_list 64 _) n1) n2) n3) n4) n5) n6) n7) n8) n9) m1
  exact blk_via (to_ := fun s : Bnd => (s.t, s.j, s.w, s.l, s.r, s.wh, s.g, s.i, s.gr, s.nm, s.kd)) (of := fun q => ⟨q.1, q.2.1, q.2.2.1, q.2.2.2.1, q.2.2.2.2.1, q.2.2.2.2.2.1, q.2.2.2.2.2.2.1, q.2.2.2.2.2.2.2.1, q.2.2.2.2.2.2.2.2.1, q.2.2.2.2.2.2.2.2.2.1, q.2.2.2.2.2.2.2.2.2.2⟩) hs rfl (fun _ => rfl)
set_option maxHeartbeats 1000000 in
theorem blk_frg : Blk frgP frg0 := by
  have n1 := nice_ints
  have n2 := nice_seqP nice_long n1
  have n3 := nice_seqP nice_flag n2
  have n4 := nice_seqP nice_sr n3
  have n5 := nice_seqP nice_sr n4
  have n6 := nice_seqP nice_long n5
  have hs := blk_seq blk_long (blk_seq blk_long (blk_seq blk_sr (blk_seq blk_sr (blk_seq blk_flag (blk_seq blk_long (blk_list 64 _) n1) n2) n3) n4) n5) n6
  exact blk_via (to_ := fun s : Frg => (s.id, s.nd, s.l, s.r, s.raw, s.by_, s.to)) (of := fun q => ⟨q.1, q.2.1, q.2.2.1, q.2.2.2.1, q.2.2.2.2.1, q.2.2.2.2.2.1, q.2.2.2.2.2.2⟩) hs rfl (fun _ => rfl)
theorem blk_fh : Blk fhP ⟨s0, ⟨0, 0⟩, 0, []⟩ := by
  have n1 := nice_cls
  have n2 := nice_seqP nice_long n1
  have n3 := nice_seqP nice_vrs n2
  have hs := blk_seq blk_txt (blk_seq blk_vrs (blk_seq blk_long (blk_list 64 _) n1) n2) n3
  exact blk_via (to_ := fun s : Fh => (s.t, s.v, s.s, s.c)) (of := fun q => ⟨q.1, q.2.1, q.2.2.1, q.2.2.2⟩) hs rfl (fun _ => rfl)
theorem blk_tbls : Blk (listP 64 tblP tbl0) [] := blk_list 64 _
theorem blk_ints : Blk intsP [] := blk_list 64 _
theorem blk_rows : Blk rowsP [] := blk_list 512 _
theorem blk_clms : Blk (listP 64 clmP clm0) [] := blk_list 64 _
/-- A field that is blank. -/
def BF (i : Nat) : Prop := ∀ z, (Ag i z mg0 → fldP i (.bl false) z = (z, .bl false)) ∧ (failedP (fldP i (.bl false) z).2 = false → Ag i z mg0)
theorem bf_of {α : Type} {g : St → α → α × St} (i : Nat) (pr : Mg → α) (up : Mg → α → Mg) (hu : ∀ x, up x (pr x) = x) (hag : ∀ z y, Ag i z y → pr z = pr y) (hga : ∀ z y, pr z = pr y → Ag i z y) (hg : ∀ st y, fldP i st y = (up y (g st (pr y)).1, (g st (pr y)).2)) (ht : Blk g (pr mg0)) : BF i := fun z => by
  refine ⟨fun h => ?_, fun h => ?_⟩
  · have e := hag _ _ h
    rw [hg, e, ht.1]
    simp only
    rw [← e, hu]
  · rw [hg] at h
    exact hga _ _ (ht.2 _ h)
/-- What is written of a field is read again. -/
def FV (i : Nat) (x : Mg) : Prop := ∀ b, failedP (fldP i (.wr b false) x).2 = false → ∃ t, fldP i (.wr b false) x = (x, .wr (b ++ t) false) ∧ ∀ r y, ∃ y', fldP i (.rd (ba (t ++ r)) false) y = (y', .rd (ba r) false) ∧ Ag i x y' ∧ (∀ j, j < 15 → j ≠ i → Ag j y y') ∧ y'.k = y.k
theorem fv_of {α : Type} {g : St → α → α × St} {ok : α → Prop} (i : Nat) (x : Mg) (pr : Mg → α) (up : Mg → α → Mg) (hu : ∀ x, up x (pr x) = x) (hp : ∀ y a, pr (up y a) = a) (hga : ∀ z y, pr z = pr y → Ag i z y) (hot : ∀ y a j, j < 15 → j ≠ i → Ag j y (up y a)) (hk : ∀ y a, (up y a).k = y.k) (hg : ∀ st y, fldP i st y = (up y (g st (pr y)).1, (g st (pr y)).2)) (ht : Trip g any ok) (ho : ok (pr x)) : FV i x := fun b hf => by
  rw [hg] at hf
  obtain ⟨t, h1, h2, _⟩ := ht b (pr x) ho hf
  refine ⟨t, by rw [hg, h1]; simp only; rw [hu], fun r y => ⟨up y (pr x), by rw [hg, h2 r (pr y) trivial], hga _ _ (hp _ _).symm, hot y _, hk y _⟩⟩
theorem bfs (i : Nat) (hi : i < 15) : BF i := by
  match i, hi with
  | 0, _ => exact bf_of 0 (fun y => y.bt) (fun y a => { y with bt := a }) (fun _ => rfl) (fun z y h => h) (fun z y h => h) (fun _ _ => rfl) blk_num
  | 1, _ => exact bf_of 1 (fun y => (⟨y.st.qb, y.st.qn⟩ : Vrs)) (fun y a => { y with st := { y.st with qb := a.b, qn := a.l } }) (fun _ => rfl) (fun z y h => by have h1 := h.1; have h2 := h.2; rw [h1, h2]) (fun z y h => ⟨congrArg Vrs.b h, congrArg Vrs.l h⟩) (fun _ _ => rfl) blk_vrs
  | 2, _ => exact bf_of 2 (fun y => y.st.at_) (fun y a => { y with st := { y.st with at_ := a } }) (fun _ => rfl) (fun z y h => h) (fun z y h => h) (fun _ _ => rfl) blk_long
  | 3, _ => exact bf_of 3 (fun y => y.st.fr) (fun y a => { y with st := { y.st with fr := a } }) (fun _ => rfl) (fun z y h => h) (fun z y h => h) (fun _ _ => rfl) blk_long
  | 4, _ => exact bf_of 4 (fun y => y.st.to) (fun y a => { y with st := ⟨y.st.qb, y.st.qn, y.st.at_, y.st.fr, a⟩ }) (fun _ => rfl) (fun z y h => h) (fun z y h => h) (fun _ _ => rfl) blk_long
  | 5, _ => exact bf_of 5 (fun y => y.bd) (fun y a => { y with bd := a }) (fun _ => rfl) (fun z y h => h) (fun z y h => h) (fun _ _ => rfl) blk_bnd
  | 6, _ => exact bf_of 6 (fun y => y.ct) (fun y a => { y with ct := a }) (fun _ => rfl) (fun z y h => h) (fun z y h => h) (fun _ _ => rfl) blk_tbls
  | 7, _ => exact bf_of 7 (fun y => y.fg) (fun y a => { y with fg := a }) (fun _ => rfl) (fun z y h => h) (fun z y h => h) (fun _ _ => rfl) blk_frg
  | 8, _ => exact bf_of 8 (fun y => y.nd) (fun y a => { y with nd := a }) (fun _ => rfl) (fun z y h => h) (fun z y h => h) (fun _ _ => rfl) blk_ints
  | 9, _ => exact bf_of 9 (fun y => y.sq) (fun y a => { y with sq := a }) (fun _ => rfl) (fun z y h => h) (fun z y h => h) (fun _ _ => rfl) blk_num
  | 10, _ => exact bf_of 10 (fun y => y.ls) (fun y a => { y with ls := a }) (fun _ => rfl) (fun z y h => h) (fun z y h => h) (fun _ _ => rfl) blk_flag
  | 11, _ => exact bf_of 11 (fun y => y.rw) (fun y a => { y with rw := a }) (fun _ => rfl) (fun z y h => h) (fun z y h => h) (fun _ _ => rfl) blk_rows
  | 12, _ => exact bf_of 12 (fun y => (⟨y.fl.t, y.fl.v, y.fl.s, y.fl.c⟩ : Fh)) (fun y a => { y with fl := { y.fl with t := a.t, v := a.v, s := a.s, c := a.c } }) (fun _ => rfl) (fun z y h => by have h1 := h.1; have h2 := h.2.1; have h3 := h.2.2.1; have h4 := h.2.2.2; rw [h1, h2, h3, h4]) (fun z y h => ⟨congrArg Fh.t h, congrArg Fh.v h, congrArg Fh.s h, congrArg Fh.c h⟩) (fun _ _ => rfl) blk_fh
  | 13, _ => exact bf_of 13 (fun y => y.fl.r) (fun y a => { y with fl := { y.fl with r := a } }) (fun _ => rfl) (fun z y h => h) (fun z y h => h) (fun _ _ => rfl) blk_rows
  | 14, _ => exact bf_of 14 (fun y => y.cm) (fun y a => { y with cm := a }) (fun _ => rfl) (fun z y h => h) (fun z y h => h) (fun _ _ => rfl) blk_clms
theorem fvs (x : Mg) (h : OkM x) (i : Nat) (hi : i < 15) : FV i x := by
  match i, hi with
  | 0, _ => exact fv_of 0 x (fun y => y.bt) (fun y a => { y with bt := a }) (fun _ => rfl) (fun _ _ => rfl) (fun z y h => h) (fun y a => fo0 y a) (fun _ _ => rfl) (fun _ _ => rfl) trip_num h.bt
  | 1, _ => exact fv_of 1 x (fun y => (⟨y.st.qb, y.st.qn⟩ : Vrs)) (fun y a => { y with st := { y.st with qb := a.b, qn := a.l } }) (fun _ => rfl) (fun _ _ => rfl) (fun z y h => ⟨congrArg Vrs.b h, congrArg Vrs.l h⟩) (fun y a => fo1 y a) (fun _ _ => rfl) (fun _ _ => rfl) trip_vrs h.q
  | 2, _ => exact fv_of 2 x (fun y => y.st.at_) (fun y a => { y with st := { y.st with at_ := a } }) (fun _ => rfl) (fun _ _ => rfl) (fun z y h => h) (fun y a => fo2 y a) (fun _ _ => rfl) (fun _ _ => rfl) trip_long h.at_
  | 3, _ => exact fv_of 3 x (fun y => y.st.fr) (fun y a => { y with st := { y.st with fr := a } }) (fun _ => rfl) (fun _ _ => rfl) (fun z y h => h) (fun y a => fo3 y a) (fun _ _ => rfl) (fun _ _ => rfl) trip_long h.fr
  | 4, _ => exact fv_of 4 x (fun y => y.st.to) (fun y a => { y with st := ⟨y.st.qb, y.st.qn, y.st.at_, y.st.fr, a⟩ }) (fun _ => rfl) (fun _ _ => rfl) (fun z y h => h) (fun y a => fo4 y a) (fun _ _ => rfl) (fun _ _ => rfl) trip_long h.tq
  | 5, _ => exact fv_of 5 x (fun y => y.bd) (fun y a => { y with bd := a }) (fun _ => rfl) (fun _ _ => rfl) (fun z y h => h) (fun y a => fo5 y a) (fun _ _ => rfl) (fun _ _ => rfl) trip_bnd h.bd
  | 6, _ => exact fv_of 6 x (fun y => y.ct) (fun y a => { y with ct := a }) (fun _ => rfl) (fun _ _ => rfl) (fun z y h => h) (fun y a => fo6 y a) (fun _ _ => rfl) (fun _ _ => rfl) trip_tbls h.ct
  | 7, _ => exact fv_of 7 x (fun y => y.fg) (fun y a => { y with fg := a }) (fun _ => rfl) (fun _ _ => rfl) (fun z y h => h) (fun y a => fo7 y a) (fun _ _ => rfl) (fun _ _ => rfl) trip_frg h.fg
  | 8, _ => exact fv_of 8 x (fun y => y.nd) (fun y a => { y with nd := a }) (fun _ => rfl) (fun _ _ => rfl) (fun z y h => h) (fun y a => fo8 y a) (fun _ _ => rfl) (fun _ _ => rfl) trip_ints h.nd
  | 9, _ => exact fv_of 9 x (fun y => y.sq) (fun y a => { y with sq := a }) (fun _ => rfl) (fun _ _ => rfl) (fun z y h => h) (fun y a => fo9 y a) (fun _ _ => rfl) (fun _ _ => rfl) trip_num h.sq
  | 10, _ => exact fv_of 10 x (fun y => y.ls) (fun y a => { y with ls := a }) (fun _ => rfl) (fun _ _ => rfl) (fun z y h => h) (fun y a => fo10 y a) (fun _ _ => rfl) (fun _ _ => rfl) trip_flag trivial
  | 11, _ => exact fv_of 11 x (fun y => y.rw) (fun y a => { y with rw := a }) (fun _ => rfl) (fun _ _ => rfl) (fun z y h => h) (fun y a => fo11 y a) (fun _ _ => rfl) (fun _ _ => rfl) trip_rows h.rw_
  | 12, _ => exact fv_of 12 x (fun y => (⟨y.fl.t, y.fl.v, y.fl.s, y.fl.c⟩ : Fh)) (fun y a => { y with fl := { y.fl with t := a.t, v := a.v, s := a.s, c := a.c } }) (fun _ => rfl) (fun _ _ => rfl) (fun z y h => ⟨congrArg Fh.t h, congrArg Fh.v h, congrArg Fh.s h, congrArg Fh.c h⟩) (fun y a => fo12 y a) (fun _ _ => rfl) (fun _ _ => rfl) trip_fh h.fh
  | 13, _ => exact fv_of 13 x (fun y => y.fl.r) (fun y a => { y with fl := { y.fl with r := a } }) (fun _ => rfl) (fun _ _ => rfl) (fun z y h => h) (fun y a => fo13 y a) (fun _ _ => rfl) (fun _ _ => rfl) trip_rows h.fw
  | 14, _ => exact fv_of 14 x (fun y => y.cm) (fun y a => { y with cm := a }) (fun _ => rfl) (fun _ _ => rfl) (fun z y h => h) (fun y a => fo14 y a) (fun _ _ => rfl) (fun _ _ => rfl) trip_clms h.cm
theorem go_blank : ∀ n i z, i + n = 15 → failedP (goP false n i (.bl false) z).2 = false → ∀ j, i ≤ j → j < 15 → (ofK.getD j []).contains z.k = false → Ag j z mg0
  | 0, i, z, hi, hf => fun j h1 h2 => by omega
  | n + 1, i, z, hi, hf => fun j h1 h2 hc => by
    simp only [goP] at hf
    by_cases hci : (ofK.getD i []).contains z.k = false
    · rw [if_pos hci] at hf
      have h3 : failedP (fldP i (.bl false) z).2 = false := by
        cases hs : failedP (fldP i (.bl false) z).2 with
        | false => rfl
        | true => rw [go_stick false n (i + 1) _ _ hs] at hf; cases hf
      have ha := (bfs i (by omega) z).2 h3
      rw [(bfs i (by omega) z).1 ha] at hf
      by_cases hj : j = i
      · subst hj; exact ha
      · exact go_blank n (i + 1) z (by omega) hf j (by omega) h2 hc
    · rw [if_neg hci] at hf
      have hj : j ≠ i := fun e => by subst e; exact hci hc
      exact go_blank n (i + 1) z (by omega) hf j (by omega) h2 hc
theorem go_blanked : ∀ n i z, i + n = 15 → (∀ j, i ≤ j → j < 15 → (ofK.getD j []).contains z.k = false → Ag j z mg0) → goP false n i (.bl false) z = (z, .bl false)
  | 0, i, z, hi, h => rfl
  | n + 1, i, z, hi, h => by
    simp only [goP]
    by_cases hci : (ofK.getD i []).contains z.k = false
    · rw [if_pos hci, (bfs i (by omega) z).1 (h i (by omega) (by omega) hci)]
      exact go_blanked n (i + 1) z (by omega) (fun j h1 h2 h3 => h j (by omega) h2 h3)
    · rw [if_neg hci]
      exact go_blanked n (i + 1) z (by omega) (fun j h1 h2 h3 => h j (by omega) h2 h3)
theorem trip_goV : ∀ n i b x, i + n = 15 → OkM x → failedP (goP true n i (.wr b false) x).2 = false → ∃ t, goP true n i (.wr b false) x = (x, .wr (b ++ t) false) ∧ ∀ r y, y.k = x.k → ∃ y', goP true n i (.rd (ba (t ++ r)) false) y = (y', .rd (ba r) false) ∧ y'.k = y.k ∧ (∀ j, i ≤ j → j < 15 → (ofK.getD j []).contains x.k = true → Ag j x y') ∧ (∀ j, j < 15 → (j < i ∨ ¬ (ofK.getD j []).contains x.k = true) → Ag j y y')
  | 0, i, b, x, hi, ho, hf => ⟨[], by simp [goP], fun r y hy => ⟨y, rfl, rfl, fun j h1 h2 => by omega, fun j _ _ => Ag.refl j y⟩⟩
  | n + 1, i, b, x, hi, ho, hf => by
    simp only [goP] at hf ⊢
    by_cases hc : (ofK.getD i []).contains x.k = true
    · rw [if_pos hc] at hf ⊢
      have h1 : failedP (fldP i (.wr b false) x).2 = false := by
        cases hs : failedP (fldP i (.wr b false) x).2 with
        | false => rfl
        | true => rw [go_stick true n (i + 1) _ _ hs] at hf; cases hf
      obtain ⟨t, a1, a2⟩ := fvs x ho i (by omega) b h1
      rw [a1] at hf ⊢
      obtain ⟨s, b1, b2⟩ := trip_goV n (i + 1) (b ++ t) x (by omega) ho hf
      refine ⟨t ++ s, by rw [b1, List.append_assoc], fun r y hy => ?_⟩
      obtain ⟨y1, c1, c2, c3, c4⟩ := a2 (s ++ r) y
      obtain ⟨y2, d1, d2, d3, d4⟩ := b2 r y1 (c4.trans hy)
      refine ⟨y2, ?_, d2.trans c4, fun j h1 h2 h3 => ?_, fun j h1 h2 => ?_⟩
      · rw [hy, if_pos hc, List.append_assoc, c1]
        exact d1
      · by_cases hj : j = i
        · subst hj; exact c2.trans (d4 j h2 (.inl (by omega)))
        · exact d3 j (by omega) h2 h3
      · have hne : j ≠ i := by
          rcases h2 with hh | hh
          · omega
          · intro e; subst e; exact hh hc
        exact (c3 j h1 hne).trans (d4 j h1 (h2.imp (fun h => by omega) (fun h => h)))
    · rw [if_neg hc] at hf ⊢
      obtain ⟨s, b1, b2⟩ := trip_goV n (i + 1) b x (by omega) ho hf
      refine ⟨s, b1, fun r y hy => ?_⟩
      obtain ⟨y2, d1, d2, d3, d4⟩ := b2 r y hy
      refine ⟨y2, ?_, d2, fun j h1 h2 h3 => ?_, fun j h1 h2 => d4 j h1 (h2.imp (fun h => by omega) (fun h => h))⟩
      · rw [hy, if_neg hc]
        exact d1
      · have hj : j ≠ i := fun e => by subst e; exact hc h3
        exact d3 j (by omega) h2 h3
end Go.Proofs.YtjpnomkcinfonaaGreatDoor
/- A message there and back. -/
namespace Go.Proofs.YtjpnomkcinfonaaGreatDoor
set_option linter.unusedVariables false
set_option linter.unusedSimpArgs false
theorem msg_eq (st : St) (y : Mg) : msgP st y = goP true 15 0 (if (octP st y.k).1 = 0 ∨ 10 ≤ (octP st y.k).1 then failP (octP st y.k).2 else (octP st y.k).2) { y with k := (octP st y.k).1 } := rfl
/-- What is written is read as what it was. -/
theorem there_back (x : Mg) (ho : OkM x) (h : wrOk x = true) : rdOk (wrS x) = true ∧ rdM (wrS x) = x := by
  have hw := h
  unfold wrOk at hw
  simp only [Bool.not_eq_true', Bool.or_eq_false_iff] at hw
  obtain ⟨hf, hf2⟩ := hw
  have hf1 : failedP (msgP (.wr [] false) x).2 = false := hf
  have ew : octP (.wr [] false) x.k = (x.k, .wr [UInt8.ofNat x.k] false) := rfl
  have e0 := msg_eq (.wr [] false) x
  rw [ew] at e0
  simp only at e0
  have hk : ¬ (x.k = 0 ∨ 10 ≤ x.k) := fun hh => by
    rw [e0, if_pos hh, go_stick true 15 0 _ _ rfl] at hf1
    cases hf1
  rw [if_neg hk] at e0
  rw [e0] at hf1
  obtain ⟨s, b1, b2⟩ := trip_goV 15 0 [UInt8.ofNat x.k] x rfl ho hf1
  have hw1 : wr1 x = (x, .wr ([UInt8.ofNat x.k] ++ s) false) := e0.trans b1
  have hbl : ∀ j, 0 ≤ j → j < 15 → (ofK.getD j []).contains x.k = false → Ag j x mg0 := by
    unfold wr2 at hf2
    rw [hw1] at hf2
    exact go_blank 15 0 x rfl hf2
  have hlen : ([UInt8.ofNat x.k] ++ s).length ≤ 65536 := by
    rw [hw1] at hf
    simp only [failedP, Bool.false_or, decide_eq_false_iff_not] at hf
    omega
  have hS : wrS x = ba (UInt8.ofNat x.k :: s) := by
    unfold wrS
    rw [h, if_pos rfl, hw1]
    rfl
  have e1 : (UInt8.ofNat x.k).toNat = x.k := by have := ho.k; simp; omega
  have hr : rd1 (ba (UInt8.ofNat x.k :: s)) = (x, .rd (ba []) false) := by
    unfold rd1
    rw [msg_eq, oct_rd, e1]
    simp only
    rw [if_neg hk]
    obtain ⟨y', c1, c2, c3, c4⟩ := b2 [] { mg0 with k := x.k } rfl
    rw [List.append_nil] at c1
    rw [c1]
    have hy : x = y' := ag_all c2.symm (fun j hj => by
      cases hc : (ofK.getD j []).contains x.k with
      | true => exact c3 j (by omega) hj hc
      | false =>
        have a1 := hbl j (by omega) hj hc
        have a2 := c4 j hj (.inr (by rw [hc]; simp))
        have a3 : Ag j mg0 { mg0 with k := x.k } := by
          match j, hj with
          | 0, _ | 2, _ | 3, _ | 4, _ | 5, _ | 6, _ | 7, _ | 8, _ | 9, _ | 10, _ | 11, _ | 13, _ | 14, _ => exact rfl
          | 1, _ => exact ⟨rfl, rfl⟩
          | 12, _ => exact ⟨rfl, rfl, rfl, rfl⟩
        exact (a1.trans a3).trans a2)
    rw [← hy]
  have hok : rdOk (wrS x) = true := by
    unfold rdOk
    rw [hS, hr, ba_size]
    have : ¬ 65536 < (UInt8.ofNat x.k :: s).length := by simp only [List.length_append, List.length_cons, List.length_nil] at hlen ⊢; omega
    simp only [List.length_append, List.length_cons, List.length_nil] at hlen
    simp [failedP, St.rest, ba_size, this]
    omega
  refine ⟨hok, ?_⟩
  unfold rdM
  rw [hok, if_pos rfl, hS, hr]
/-- What is read is right, and written as what it was. -/
theorem back_there (s : ByteArray) (h : rdOk s = true) : wrOk (rdM s) = true ∧ wrS (rdM s) = s := by
  have hM : rdM s = (rd1 s).1 := by unfold rdM; rw [h, if_pos rfl]
  unfold rdOk at h
  simp only [Bool.and_eq_true, Bool.not_eq_true', decide_eq_false_iff_not, beq_iff_eq] at h
  obtain ⟨hs, hf, hz⟩ := h
  rw [hM]
  obtain ⟨l, rfl⟩ : ∃ l, s = ba l := ⟨_, (ba_list s).symm⟩
  rw [ba_size] at hs
  unfold rd1 at hf hz ⊢
  rw [msg_eq] at hf hz ⊢
  cases l with
  | nil =>
    rw [oct_nil] at hf
    simp only at hf
    rw [go_stick true 15 0 _ _ (by simp [failP, failedP])] at hf
    cases hf
  | cons c r =>
    rw [oct_rd] at hf hz ⊢
    simp only at hf hz ⊢
    have hcc : UInt8.ofNat c.toNat = c := UInt8.ofNat_toNat
    have hk : ¬ (c.toNat = 0 ∨ 10 ≤ c.toNat) := fun hh => by
      rw [if_pos hh, go_stick true 15 0 _ _ rfl] at hf
      cases hf
    rw [if_neg hk] at hf hz ⊢
    obtain ⟨y, t, q, a1, a2, a3, a4, a5⟩ := back_go 15 0 r { mg0 with k := c.toNat } rfl hf
    rw [a2] at hz ⊢
    simp only at hz ⊢
    have hq : q = [] := by
      have : (ba q).size = 0 := hz
      rw [ba_size] at this
      exact List.length_eq_zero_iff.1 this
    subst hq
    rw [List.append_nil] at a1
    subst a1
    have hyk : y.k = c.toNat := a3
    have hl : ([c] ++ r).length ≤ 65536 := by simp only [List.length_append, List.length_cons, List.length_nil] at hs ⊢; omega
    have hw1 : wr1 y = (y, .wr ([c] ++ r) false) := by
      unfold wr1
      rw [msg_eq]
      have ew : octP (.wr [] false) y.k = (y.k, .wr [c] false) := by
        show (y.k, St.wr ([] ++ [UInt8.ofNat y.k]) false) = _
        rw [hyk, hcc]; rfl
      rw [ew]
      simp only
      rw [hyk, if_neg hk]
      have := a5 [c] hl
      rw [← hyk]
      exact this
    have hw2 : wr2 y = (y, .bl false) := by
      unfold wr2
      rw [hw1]
      refine go_blanked 15 0 y rfl (fun j _ hj hc => ?_)
      rw [hyk] at hc
      have b1 := a4 j hj (.inr (by show ¬ (ofK.getD j []).contains c.toNat = true; rw [hc]; simp))
      have b2 : Ag j { mg0 with k := c.toNat } mg0 := by
        match j, hj with
        | 0, _ | 2, _ | 3, _ | 4, _ | 5, _ | 6, _ | 7, _ | 8, _ | 9, _ | 10, _ | 11, _ | 13, _ | 14, _ => exact rfl
        | 1, _ => exact ⟨rfl, rfl⟩
        | 12, _ => exact ⟨rfl, rfl, rfl, rfl⟩
      exact b1.symm.trans b2
    have hok : wrOk y = true := by
      unfold wrOk
      rw [hw1, hw2]
      simp only [List.length_append, List.length_cons, List.length_nil] at hl
      simp [failedP]
      omega
    refine ⟨hok, ?_⟩
    unfold wrS
    rw [hok, if_pos rfl, hw1]
    rfl
end Go.Proofs.YtjpnomkcinfonaaGreatDoor
