/-
  The order of routes: what inserting and removing keep. No function of the program is named here. The bits of an exclusive or of two bytes. Prefixes that are addresses with bits cleared: valid, and what they contain. What is made of choices is valid and in order; routes that are inserted one after the other. No function of the program is named here. What is asked of the functions of routes, with the results under names of their own. Lists of routes and of prefixes that are equal: same, prefixes of the laws. Prefixes, as an entry of what lies in memory. No function of the program is named here. Words for lists of objects of one size that a slice holds: the first one for which a predicate holds, a place that is written, a predicate that is handed on. No function of the program is named here. The elements of type burrow/api.Route: size, zero value, pieces of their slices. The contract of slices.Grow of the nil slice of structs. The contract of slices.Concat of slices of structs. The predicates that the program's routes hand on. A route between two pieces of a list of routes: what Concat gives. The contract of the reference's RemoveRoute. The contract of the reference's RemovePeer. The contract of the reference's RoutesOf. No statement is proved here.
-/
import Derived.RegionTactic
import Derived.Lib.AppendZerosOnto
import Derived.Deep.DeepCutAuto
import Derived.Test.YtnblofbbbkjhpaaRoutesChangeB5
namespace Go.Proofs.Ytnblofbbbkjhpaa
open Go.RowKit

theorem bl_irrefl : ∀ a : List UInt8, Op.bytesLess a a = false
  | [] => rfl
  | x :: a => by
    unfold Op.bytesLess
    rw [bl_irrefl a]
    simp
theorem bl_trans : ∀ a b c : List UInt8, Op.bytesLess a b = true → Op.bytesLess b c = true → Op.bytesLess a c = true
  | _, [], _, h, _ => by cases ‹List UInt8› <;> simp [Op.bytesLess] at h
  | _, _ :: _, [], _, h => by simp [Op.bytesLess] at h
  | [], _ :: _, _ :: _, _, _ => rfl
  | x :: a, y :: b, z :: c, h, k => by
    unfold Op.bytesLess at h k ⊢
    simp only [Bool.or_eq_true, Bool.and_eq_true, decide_eq_true_eq, beq_iff_eq] at h k ⊢
    have key := bl_trans a b c
    rcases h with h | ⟨rfl, h⟩
    · rcases k with k | ⟨rfl, k⟩
      · exact .inl (UInt8.lt_trans h k)
      · exact .inl h
    · rcases k with k | ⟨rfl, k⟩
      · exact .inl k
      · exact .inr ⟨rfl, key h k⟩
theorem bl_total : ∀ a b : List UInt8, a.length = b.length → a ≠ b → Op.bytesLess a b = true ∨ Op.bytesLess b a = true
  | [], [], _, h => absurd rfl h
  | [], _ :: _, h, _ => by simp at h
  | _ :: _, [], h, _ => by simp at h
  | x :: a, y :: b, hl, h => by
    unfold Op.bytesLess
    simp only [Bool.or_eq_true, Bool.and_eq_true, decide_eq_true_eq, beq_iff_eq]
    by_cases e : x = y
    · subst e
      rcases bl_total a b (by simpa using hl) (fun e => h (by rw [e])) with k | k
      · exact .inl (.inr ⟨rfl, k⟩)
      · exact .inr (.inr ⟨rfl, k⟩)
    · have hn : x.toNat ≠ y.toNat := fun k => e (UInt8.toNat.inj k)
      rcases Nat.lt_or_ge x.toNat y.toNat with k | k
      · exact .inl (.inl (UInt8.lt_iff_toNat_lt.2 k))
      · exact .inr (.inl (UInt8.lt_iff_toNat_lt.2 (by omega)))
theorem less_irrefl (a : AddrM) : lessM a a = false := by rw [lessM, if_pos rfl, bl_irrefl]
theorem less_trans {a b c : AddrM} (h : lessM a b = true) (k : lessM b c = true) : lessM a c = true := by
  unfold lessM at *
  cases hs : a.six <;> cases hb : b.six <;> cases hc : c.six <;> simp_all
  · exact bl_trans _ _ _ h k
  · exact bl_trans _ _ _ h k
theorem less_total {a b : AddrM} (ha : a.ok) (hb : b.ok) (h : a ≠ b) : lessM a b = true ∨ lessM b a = true := by
  unfold lessM
  cases hs : a.six <;> cases ht : b.six <;> simp
  · exact bl_total _ _ (by rw [ha, hb]) (fun e => h (by cases a; cases b; simp_all))
  · exact bl_total _ _ (by rw [ha, hb]) (fun e => h (by cases a; cases b; simp_all))
theorem bef_trans {a b c : AddrM} {i j k : Int} (h : befM a i b j = true) (h2 : befM b j c k = true) : befM a i c k = true := by
  unfold befM at *
  by_cases e1 : a = b
  · subst e1
    rw [if_pos rfl] at h
    by_cases e2 : a = c
    · subst e2
      rw [if_pos rfl] at h2 ⊢
      simp only [decide_eq_true_eq] at *
      omega
    · rw [if_neg e2] at h2 ⊢
      exact h2
  · rw [if_neg e1] at h
    by_cases e2 : b = c
    · subst e2
      rw [if_neg e1]
      exact h
    · rw [if_neg e2] at h2
      have ht := less_trans h h2
      by_cases e3 : a = c
      · subst e3
        rw [less_irrefl] at ht
        cases ht
      · rw [if_neg e3]
        exact ht
theorem bef_total {a b : AddrM} {i j : Int} (ha : a.ok) (hb : b.ok) (h : ¬(a = b ∧ i = j)) : befM a i b j = true ∨ befM b j a i = true := by
  unfold befM
  by_cases e : a = b
  · subst e
    rw [if_pos rfl, if_pos rfl]
    simp only [decide_eq_true_eq]
    have : i ≠ j := fun k => h ⟨rfl, k⟩
    omega
  · rw [if_neg e, if_neg (fun k => e k.symm)]
    exact less_total ha hb e
def befR (r s : RouteM) : Prop := befM r.a r.bits s.a s.bits = true
theorem befR_trans {r s t : RouteM} (h : befR r s) (k : befR s t) : befR r t := bef_trans h k
/-- routes with valid prefixes in ascending order -/
def SortedM (l : List RouteM) : Prop := (∀ r ∈ l, validM r.a r.bits = true) ∧ l.Pairwise befR
theorem sorted_chain {l : List RouteM} (h : SortedM l) : chainM l = true := by
  refine chainM_good fun i hi => ?_
  cases i with
  | zero => rw [stepM_zero (List.getElem?_eq_getElem hi)]; exact h.1 _ (List.getElem_mem hi)
  | succ k =>
    rw [stepM_succ (List.getElem?_eq_getElem (by omega)) (List.getElem?_eq_getElem hi), h.1 _ (List.getElem_mem hi), Bool.true_and]
    exact List.pairwise_iff_getElem.1 h.2 k (k + 1) (by omega) hi (by omega)
theorem chain_sorted {l : List RouteM} (h : chainM l = true) : SortedM l := by
  have hs : ∀ i, i < l.length → stepM l i = true := fun i hi => List.all_eq_true.1 h i (List.mem_range.2 hi)
  constructor
  · intro r hr
    obtain ⟨i, hi, rfl⟩ := List.getElem_of_mem hr
    have := hs i hi
    cases hv : validM l[i].a l[i].bits with
    | true => rfl
    | false => rw [stepM_bad (List.getElem?_eq_getElem hi) hv] at this; cases this
  · rw [List.pairwise_iff_getElem]
    intro i j hi hj hij
    have key : ∀ d (hd : i + d + 1 < l.length), befR l[i] (l[i + d + 1]) := by
      intro d
      induction d with
      | zero =>
        intro hd
        have := hs (i + 1) hd
        rw [stepM_succ (List.getElem?_eq_getElem hi) (List.getElem?_eq_getElem hd), Bool.and_eq_true] at this
        exact this.2
      | succ d ih =>
        intro hd
        have := hs (i + d + 1 + 1) (by omega)
        rw [stepM_succ (List.getElem?_eq_getElem (by omega)) (List.getElem?_eq_getElem (by omega)), Bool.and_eq_true] at this
        exact befR_trans (ih (by omega)) this.2
    have := key (j - i - 1) (by omega)
    have e : i + (j - i - 1) + 1 = j := by omega
    simp only [e] at this
    exact this
theorem valid_sorted {l : List RouteM} : validRoutesM l = true ↔ SortedM l ∧ l.length ≤ 16 := by
  rw [validRoutesM, Bool.and_eq_true, decide_eq_true_eq]
  exact ⟨fun h => ⟨chain_sorted h.1, h.2⟩, fun h => ⟨sorted_chain h.1, h.2⟩⟩
/-- no route has this prefix -/
def FreshM (a : AddrM) (b : Int) (l : List RouteM) : Prop := ∀ r ∈ l, RouteM.is a b r = false
theorem fresh_find {a : AddrM} {b : Int} {l : List RouteM} (h : FreshM a b l) : findM a b l = none := List.findIdx?_eq_none_iff.2 h
theorem ins_fresh {a : AddrM} {b : Int} {l : List RouteM} (k : List UInt8) (hv : validM a b = true) (h : FreshM a b l) (hl : l.length < 16) : insM l a b k = (l.take (aheadM a b l) ++ ⟨a, b, k⟩ :: l.drop (aheadM a b l), 0) := by
  unfold insM
  rw [if_neg (by rw [hv]; simp), fresh_find h]
  exact if_neg (by omega)
theorem ins_perm {a : AddrM} {b : Int} {l : List RouteM} (k : List UInt8) (hv : validM a b = true) (h : FreshM a b l) (hl : l.length < 16) : List.Perm (insM l a b k).1 (⟨a, b, k⟩ :: l) := by
  rw [ins_fresh k hv h hl]
  have := List.perm_middle (a := (⟨a, b, k⟩ : RouteM)) (l₁ := l.take (aheadM a b l)) (l₂ := l.drop (aheadM a b l))
  rwa [List.take_append_drop] at this
theorem ahead_take {a : AddrM} {b : Int} {l : List RouteM} : ∀ r ∈ l.take (aheadM a b l), befM a b r.a r.bits = false := by
  intro r hr
  obtain ⟨i, hi, rfl⟩ := List.getElem_of_mem hr
  rw [List.length_take] at hi
  rw [List.getElem_take]
  cases hb : befM a b l[i].a l[i].bits with
  | false => rfl
  | true =>
    have := (aheadM_step a b l i (by omega) l[i] (List.getElem?_eq_getElem (by omega))).2 hb
    omega
theorem ahead_drop {a : AddrM} {b : Int} {l : List RouteM} (hs : l.Pairwise befR) : ∀ r ∈ l.drop (aheadM a b l), befM a b r.a r.bits = true := by
  intro r hr
  obtain ⟨i, hi, rfl⟩ := List.getElem_of_mem hr
  rw [List.length_drop] at hi
  rw [List.getElem_drop]
  have h0 : aheadM a b l < l.length := by omega
  have hb : befM a b (l[aheadM a b l]).a (l[aheadM a b l]).bits = true := by
    cases hb : befM a b (l[aheadM a b l]).a (l[aheadM a b l]).bits with
    | true => rfl
    | false =>
      have := (aheadM_step a b l _ (Nat.le_refl _) _ (List.getElem?_eq_getElem h0)).1 hb
      omega
  rcases Nat.eq_zero_or_pos i with h | h
  · subst h
    exact hb
  · exact bef_trans hb (List.pairwise_iff_getElem.1 hs _ _ h0 (by omega) (by omega))
theorem ins_sorted_fresh {a : AddrM} {b : Int} {l : List RouteM} (k : List UInt8) (ha : a.ok) (hok : ∀ r ∈ l, r.ok) (hv : validM a b = true) (h : FreshM a b l) (hl : l.length < 16) (hs : SortedM l) : SortedM (insM l a b k).1 := by
  refine ⟨fun r hr => ?_, ?_⟩
  · rcases List.mem_cons.1 ((ins_perm k hv h hl).subset hr) with rfl | hr
    · exact hv
    · exact hs.1 r hr
  · rw [ins_fresh k hv h hl, List.pairwise_append]
    refine ⟨hs.2.sublist (List.take_sublist _ _), ?_, ?_⟩
    · rw [List.pairwise_cons]
      exact ⟨fun r hr => ahead_drop hs.2 r hr, hs.2.sublist (List.drop_sublist _ _)⟩
    · intro r hr s hsm
      have hrb : befR r ⟨a, b, k⟩ := by
        have h1 := ahead_take r hr
        have h2 := h r (List.mem_of_mem_take hr)
        rw [RouteM.is, decide_eq_false_iff_not] at h2
        rcases bef_total (hok r (List.mem_of_mem_take hr)).1 ha h2 with h3 | h3
        · exact h3
        · rw [h1] at h3; cases h3
      rcases List.mem_cons.1 hsm with rfl | hsm
      · exact hrb
      · exact befR_trans hrb (ahead_drop hs.2 s hsm)
end Go.Proofs.Ytnblofbbbkjhpaa
namespace Go.Proofs.Ytnblofbbbkjhpaa
open Go.RowKit

end Go.Proofs.Ytnblofbbbkjhpaa
namespace Go.Proofs.Ytnblofbbbkjhpaa
open Go.RowKit

theorem bit_clear_all : ∀ m : Fin 8, ∀ k : Fin 8, ∀ x : Fin 256, (clearBit (UInt8.ofNat x.val) m.val).toNat / 2 ^ (7 - k.val) % 2 = if k = m then 0 else x.val / 2 ^ (7 - k.val) % 2 := by decide +kernel
theorem bit_clear (x : UInt8) (m k : Nat) (hm : m < 8) (hk : k < 8) : (clearBit x m).toNat / 2 ^ (7 - k) % 2 = if k = m then 0 else x.toNat / 2 ^ (7 - k) % 2 := by
  have h := bit_clear_all ⟨m, hm⟩ ⟨k, hk⟩ ⟨x.toNat, x.toNat_lt⟩
  simp only [UInt8.ofNat_toNat, Fin.mk.injEq] at h
  exact h
theorem clear_zero : ∀ m : Fin 8, clearBit 0 m.val = 0 := by decide
theorem mask_bit (ip : List UInt8) (hl : ip.length = 16) (b i : Nat) (hi : i < 128) : ∀ j, b + j ≤ 128 → bitM (clearS ip b j) i = if b ≤ i ∧ i < b + j then 0 else bitM ip i
  | 0, _ => by rw [if_neg (by omega)]; rfl
  | j + 1, h => by
    have ih := mask_bit ip hl b i hi j (by omega)
    have hml := clearS_length ip b j
    rw [clearS]
    generalize clearS ip b j = y at ih hml ⊢
    by_cases hq : i / 8 = (b + j) / 8
    · rw [bitM, hq, List.getD_eq_getElem?_getD, List.getElem?_set_self (by omega), Option.getD_some, bit_clear _ _ _ (by omega) (by omega)]
      rw [bitM, hq] at ih
      by_cases he : i % 8 = (b + j) % 8
      · rw [if_pos he, if_pos (by omega)]
      · rw [if_neg he, ih]
        by_cases hc : b ≤ i ∧ i < b + j
        · rw [if_pos hc, if_pos (by omega)]
        · rw [if_neg hc, if_neg (by omega)]
    · rw [bitM, List.getD_eq_getElem?_getD, List.getElem?_set_ne (by omega), ← List.getD_eq_getElem?_getD]
      rw [bitM] at ih
      rw [ih]
      by_cases hc : b ≤ i ∧ i < b + j
      · rw [if_pos hc, if_pos (by omega)]
      · rw [if_neg hc, if_neg (by omega)]
theorem mask_bits (a : AddrM) (h : a.ok) (b i : Nat) (hb : b ≤ 128) (hi : i < 128) : bitM (maskM a b).ip i = if b ≤ i then 0 else bitM a.ip i := by
  have := mask_bit a.ip h b i hi (128 - b) (by omega)
  rw [maskM]
  rw [this]
  by_cases hc : b ≤ i
  · rw [if_pos hc, if_pos (by omega)]
  · rw [if_neg hc, if_neg (by omega)]
theorem sound_iff (a : AddrM) : soundM a = true ↔ a.six = true ∨ ∀ q, 4 ≤ q → a.ip.getD q 0 = 0 := by
  rw [soundM, Bool.or_eq_true, List.all_eq_true]
  refine or_congr Iff.rfl ⟨fun h q hq => ?_, fun h x hx => ?_⟩
  · by_cases hl : q < a.ip.length
    · have := h (a.ip[q]) (by
        rw [List.mem_iff_getElem]
        exact ⟨q - 4, by rw [List.length_drop]; omega, by rw [List.getElem_drop]; congr 1; omega⟩)
      rw [List.getD_eq_getElem?_getD, List.getElem?_eq_getElem hl]
      exact beq_iff_eq.1 this
    · rw [List.getD_eq_getElem?_getD, List.getElem?_eq_none (by omega)]; rfl
  · obtain ⟨n, hn, rfl⟩ := List.mem_iff_getElem.1 hx
    rw [List.length_drop] at hn
    have := h (4 + n) (by omega)
    rw [List.getD_eq_getElem?_getD, List.getElem?_eq_getElem (by omega)] at this
    rw [List.getElem_drop]
    exact beq_iff_eq.2 this
theorem clearS_zero (ip : List UInt8) (b q : Nat) (hq : ip.getD q 0 = 0) : ∀ j, (clearS ip b j).getD q 0 = 0
  | 0 => hq
  | j + 1 => by
    have ih := clearS_zero ip b q hq j
    rw [clearS]
    by_cases he : (b + j) / 8 = q
    · rw [he, ih, clear_zero ⟨(b + j) % 8, Nat.mod_lt _ (by omega)⟩, List.getD_eq_getElem?_getD, List.getElem?_set]
      rw [if_pos rfl]
      split <;> rfl
    · rw [List.getD_eq_getElem?_getD, List.getElem?_set_ne he, ← List.getD_eq_getElem?_getD, ih]
theorem mask_sound (a : AddrM) (b : Nat) (hs : soundM a = true) : soundM (maskM a b) = true := by
  rw [sound_iff] at hs ⊢
  rcases hs with h | h
  · exact .inl h
  · exact .inr fun q hq => clearS_zero _ _ _ (h q hq) _
theorem width_le (a : AddrM) : widthM a ≤ 128 := by unfold widthM; split <;> omega
theorem mask_valid (a : AddrM) (h : a.ok) (b : Nat) (hb : b ≤ widthM a) (hs : soundM a = true) : validM (maskM a b) (b : Int) = true := by
  have hw := width_le a
  rw [validM_iff _ _ (mask_sound a b hs) (by omega) (by show (b : Int) ≤ (widthM a : Int); omega)]
  intro i hi hlt
  rw [mask_bits a h b i (by omega) hlt, if_pos (by omega)]
theorem codeA_sound (l : List UInt8) (p : Nat) : soundM (codeA l p) = true := by
  rw [sound_iff]
  by_cases h : sixV l p = true
  · exact .inl h
  · refine .inr fun q hq => ?_
    rw [codeA]
    dsimp only
    rw [if_neg h, fourB]
    generalize UInt8.ofNat (nextV l (nextP l p 3) 4) = u1
    generalize UInt8.ofNat (nextV l (nextP l (nextP l p 3) 4) 4) = u2
    generalize UInt8.ofNat (nextV l (nextP l (nextP l (nextP l p 3) 4) 4) 256) = u3
    obtain ⟨k, rfl⟩ : ∃ k, q = k + 4 := ⟨q - 4, by omega⟩
    show ([10, u1, u2, u3] ++ List.replicate 12 0 : List UInt8).getD (k + 4) 0 = 0
    rw [List.getD_eq_getElem?_getD, List.getElem?_append_right (by simp), show k + 4 - ([10, u1, u2, u3] : List UInt8).length = k from rfl, List.getElem?_replicate]
    split <;> rfl
end Go.Proofs.Ytnblofbbbkjhpaa
namespace Go.Proofs.Ytnblofbbbkjhpaa
open Go.RowKit

theorem codeM_valid (l : List UInt8) (p : Nat) : validM (codeM l p) (codePb l p : Int) = true := by
  refine mask_valid (codeA l p) (codeA_ok l p) (codePb l p) ?_ (codeA_sound l p)
  have h := nextV_lt l (codeAP l p) (codePn l p) (by unfold codePn; split <;> omega)
  have hw : codePn l p = widthM (codeA l p) + 1 := by
    unfold codePn widthM
    cases hs : sixV l p with
    | true => simp [codeA, hs]
    | false => simp [codeA, hs]
  unfold codePb
  omega
def toRt (x : (AddrM × Int) × UInt8) : RouteM := ⟨x.1.1, x.1.2, keyB x.2⟩
def GoodP (p : AddrM × Int) : Prop := p.1.ok ∧ validM p.1 p.2 = true
theorem GoodP.bits {p : AddrM × Int} (h : GoodP p) : 0 ≤ p.2 ∧ p.2 ≤ 128 := by
  have hw := widthM p.1
  have h2 := h.2
  unfold validM widthM at h2
  simp only [Bool.and_eq_true, decide_eq_true_eq] at h2
  have : (if p.1.six = true then 128 else 32 : Nat) ≤ 128 := by split <;> omega
  omega
theorem GoodP.i64 {p : AddrM × Int} (h : GoodP p) : inI64 p.2 := by
  have := h.bits
  unfold inI64
  omega
theorem insAll_spec : ∀ ys : List ((AddrM × Int) × UInt8), (ys.map (·.1)).Nodup → (∀ y ∈ ys, GoodP y.1) → ys.length ≤ 15 → List.Perm (insAll ys) (ys.map toRt) ∧ SortedM (insAll ys) ∧ (∀ r ∈ insAll ys, r.ok) := by
  suffices h : ∀ (q : Nat) (ys : List ((AddrM × Int) × UInt8)), ys.length = q → (ys.map (·.1)).Nodup → (∀ y ∈ ys, GoodP y.1) → ys.length ≤ 15 → List.Perm (insAll ys) (ys.map toRt) ∧ SortedM (insAll ys) ∧ (∀ r ∈ insAll ys, r.ok) from fun ys => h ys.length ys rfl
  intro q
  induction q with
  | zero =>
    intro ys h _ _ _
    obtain rfl := List.eq_nil_of_length_eq_zero h
    exact ⟨by simp [insAll], ⟨by simp [insAll], by simp [insAll]⟩, by simp [insAll]⟩
  | succ q ih0 =>
    intro ys hq hn hg hl
    rcases List.eq_nil_or_concat ys with rfl | ⟨ws, y, rfl⟩
    · simp at hq
    rw [List.concat_eq_append] at *
    have ih := ih0 ws (by simpa using hq)
    rw [List.map_append, List.nodup_append] at hn
    rw [List.length_append, List.length_singleton] at hl
    obtain ⟨h1, h2, h3⟩ := ih hn.1 (fun z hz => hg z (List.mem_append_left _ hz)) (by omega)
    have hy := hg y (List.mem_append_right _ (List.mem_singleton_self _))
    have hlen : (insAll ws).length = ws.length := by rw [h1.length_eq, List.length_map]
    have hf : FreshM y.1.1 y.1.2 (insAll ws) := by
      intro r hr
      obtain ⟨z, hz, rfl⟩ := List.mem_map.1 (h1.subset hr)
      rw [RouteM.is, decide_eq_false_iff_not]
      rintro ⟨e1, e2⟩
      exact hn.2.2 z.1 (List.mem_map_of_mem hz) y.1 (by simp) (Prod.ext e1 e2)
    rw [insAll_snoc]
    have hp := ins_perm (keyB y.2) hy.2 hf (by omega)
    refine ⟨?_, ins_sorted_fresh _ hy.1 h3 hy.2 hf (by omega) h2, ?_⟩
    · rw [List.map_append]
      exact hp.trans (((List.Perm.cons _ h1)).trans (List.perm_append_comm (l₁ := [toRt y]) (l₂ := ws.map toRt)))
    · intro r hr
      rcases List.mem_cons.1 (hp.subset hr) with rfl | hr
      · exact ⟨hy.1, rfl, hy.i64⟩
      · exact h3 r hr
theorem made_spec {l : List UInt8} {xs : List ((AddrM × Int) × UInt8)} (h : MadeOf l xs) : List.Perm (insAll xs) (xs.map toRt) ∧ SortedM (insAll xs) ∧ (∀ r ∈ insAll xs, r.ok) ∧ (insAll xs).length ≤ 10 := by
  obtain ⟨h1, h2, h3⟩ := insAll_spec xs h.2.1 (fun y hy => by
    obtain ⟨i, hi⟩ := h.2.2 y hy
    rw [hi]
    exact ⟨codeM_ok l i, codeM_valid l i⟩) (by have := h.1; omega)
  exact ⟨h1, h2, h3, by rw [h1.length_eq, List.length_map]; exact h.1⟩
end Go.Proofs.Ytnblofbbbkjhpaa
namespace Go.Proofs.Ytnblofbbbkjhpaa
open Go.RowKit

section
variable {F n m : Nat} {l l' : List RouteM}
def CapOk (m c : Nat) : Prop := m ≤ c ∧ c ≤ maxLen
theorem rem_use (H : RtRemC F) {a : AddrM} {b : Int} (h : remM l a b = l') (hm : l'.length = m) (hn : n ≤ 100) (ha : a.ok) (hb : inI64 b) (A : Option Addr) (c : Nat) (W : World) (hc : CapOk n c) (hr : RtRd W W.heap.size A n l) :
    Calls Try.prog F #[.slice A n c, .agg (prefC a b).toArray] W fun e w' => ∃ A c, e = .returned (.slice A m c) ∧ CapOk m c ∧ RtRd w' w'.heap.size A m l' ∧ Below W.heap.size W w' := by
  have h2 := H A n c l a b W ha hb ⟨hn, hc.1, hc.2, hr⟩
  rw [h] at h2
  refine h2.mono ?_
  rintro e w' ⟨v, he, A, c, hv, h1, h2, hr, hb⟩
  subst hv hm
  exact ⟨A, c, he, ⟨h1, h2⟩, hr, hb⟩
theorem remP_use (H : RtRemPC F) {k : List UInt8} (h : remPeerM l k = l') (hm : l'.length = m) (hn : n ≤ 100) (hk : k.length = 32) (A : Option Addr) (c : Nat) (W : World) (hc : CapOk n c) (hr : RtRd W W.heap.size A n l) :
    Calls Try.prog F #[.slice A n c, .agg (k.map u8v).toArray] W fun e w' => ∃ A c, e = .returned (.slice A m c) ∧ CapOk m c ∧ RtRd w' w'.heap.size A m l' ∧ Below W.heap.size W w' := by
  have h2 := H A n c l k W hk ⟨hn, hc.1, hc.2, hr⟩
  rw [h] at h2
  refine h2.mono ?_
  rintro e w' ⟨v, he, A, c, hv, h1, h2, hr, hb⟩
  subst hv hm
  exact ⟨A, c, he, ⟨h1, h2⟩, hr, hb⟩
theorem of_use (H : RtOfC F) {k : List UInt8} {q : List (AddrM × Int)} (h : ofM l k = q) (hm : q.length = m) (hn : n ≤ 100) (hk : k.length = 32) (A : Option Addr) (c : Nat) (W : World) (hc : CapOk n c) (hr : RtRd W W.heap.size A n l) :
    Calls Try.prog F #[.slice A n c, .agg (k.map u8v).toArray] W fun e w' => ∃ A c, e = .returned (.slice A m c) ∧ PfRd w' w'.heap.size A m q ∧ Below W.heap.size W w' := by
  have h2 := H A n c l k W hk ⟨hn, hc.1, hc.2, hr⟩
  rw [h] at h2
  subst hm
  exact h2
theorem valid_use (H : RtValidC F) {y : Bool} (h : validRoutesM l = y) (hn : n ≤ 100) (A : Option Addr) (c : Nat) (W : World) (hc : CapOk n c) (hr : RtRd W W.heap.size A n l) :
    Calls Try.prog F #[.slice A n c] W fun e w' => e = .returned (.bool y) ∧ Below W.heap.size W w' := by
  have h2 := H A n c l W ⟨hn, hc.1, hc.2, hr⟩
  rw [h] at h2
  exact h2
theorem insU (H : RtInsC F) {a : AddrM} {b : Int} {k : List UInt8} {er : Nat} (h : insM l a b k = (l', er)) (hm : l'.length = m) (hn : n ≤ 100) (ha : a.ok) (hb : inI64 b) (hk : k.length = 32) (A : Option Addr) (c : Nat) (W : World) (hc : CapOk n c) (hr : RtRd W W.heap.size A n l) :
    Calls Try.prog F #[.slice A n c, .agg (prefC a b).toArray, .agg (k.map u8v).toArray] W fun e w' => ∃ A c, e = .returned (.tuple #[.slice A m c, .int .i64 (er : Int)]) ∧ CapOk m c ∧ RtRd w' w'.heap.size A m l' ∧ Below W.heap.size W w' := by
  have h2 := H A n c l a b k W ha hb hk ⟨hn, hc.1, hc.2, hr⟩
  rw [h] at h2
  refine h2.mono ?_
  rintro e w' ⟨v, he, A, c, hv, h1, h2, hr, hb⟩
  subst hv hm
  exact ⟨A, c, he, ⟨h1, h2⟩, hr, hb⟩
end
end Go.Proofs.Ytnblofbbbkjhpaa
namespace Go.Proofs.Ytnblofbbbkjhpaa
open Go.RowKit

set_option maxRecDepth 100000 in
set_option maxHeartbeats 8000000 in
theorem same_any (A A' : Option Addr) (n c c' : Nat) (l : List RouteM) (hn : n ≤ 1000) (w : World) (ha : RtRd w w.heap.size A n l) (hb : RtRd w w.heap.size A' n l) :
    Calls Try.prog 14 #[.slice A n c, .slice A' n c'] w fun e w' => e = .returned (.bool true) ∧ Below w.heap.size w w' := by
  have HA := Lib.hid ha
  have HB := Lib.hid hb
  clear ha hb
  have sn : ((n : Int) != (n : Int)) = false := by simp
  go_enter Try.func14, Try.ntmps14
  go_wp2_with fail
  clear sn
  go_loopw [13] (fun i wr => ∃ j : Nat, j ≤ n ∧ i = .int .i64 (j : Int) ∧ Below w.heap.size w wr) (fun i _ => n - (intOf i).toNat)
  case atStart => exact ⟨0, Nat.zero_le _, rfl, Below.refl _ _⟩
  case round =>
    obtain ⟨j, hj, rfl, hW⟩ := hrel
    have HW := Lib.hid hW
    clear hW
    by_cases hjn : j < n
    · have d1 : decide ((j : Int) < (n : Int)) = true := by simp; omega
      obtain ⟨b, off, rfl⟩ := HA.out.1.addr (by omega)
      obtain ⟨b', off', rfl⟩ := HB.out.1.addr (by omega)
      obtain ⟨r, hr⟩ : ∃ r, l[j]? = some r := ⟨l[j]'(by rw [HA.out.len]; exact hjn), List.getElem?_eq_getElem _⟩
      have HOK := Lib.hid (HA.out.ok hr)
      have HLA := Lib.hid (show ∀ W, Below w.heap.size w W → At W b (off + j * 50) r.cells from fun W hW => (HA.out.at j r hr).2.mono hW (HA.out.at j r hr).1)
      have HLB := Lib.hid (show ∀ W, Below w.heap.size w W → At W b' (off' + j * 50) r.cells from fun W hW => (HB.out.at j r hr).2.mono hW (HB.out.at j r hr).1)
      have heq := fun w' : World => (route_eqd r r HOK.out HOK.out w' true (by simp))
      obtain ⟨ck, hck⟩ : ∃ c, (r.cells).toArray = c := ⟨_, rfl⟩
      rw [hck] at heq
      have HEQ := Lib.hid heq
      have HCK := Lib.hid hck
      clear hck hr heq
      go_upto_region 6 with fail
      clear d1
      refine wp_region_held_drew (S := fun W' => Below w.heap.size w W') (by kernel_rfl) (HW.out.drew) (fun hHeld => ?_)
      refine take_first (v := ?_) 0 rfl (by kernel_rfl) (by kernel_rfl) (by kernel_rfl) (fun _ _ _ h => h) (Or.inl ⟨by rfl, ?_⟩) (by assumption) ?_
      rotate_left
      · (intro w hSw; (try dsimp only at hSw); go_simp; try with_reducible rfl)
      (try simp only [Act.put, List.setIfInBounds_toArray, List.set_cons_zero, List.set_cons_succ])
      refine take_first (v := ?_) 1 rfl (by kernel_rfl) (by kernel_rfl) (by kernel_rfl) (fun _ _ _ h => h) (Or.inl ⟨by rfl, ?_⟩) (by assumption) ?_
      rotate_left
      · (intro w hSw; (try dsimp only at hSw); go_simp; try with_reducible rfl)
      (try simp only [Act.put, List.setIfInBounds_toArray, List.set_cons_zero, List.set_cons_succ])
      refine take_first (v := ?_) 2 rfl (by kernel_rfl) (by kernel_rfl) (by kernel_rfl) (fun _ _ _ h => h) (Or.inl ⟨by rfl, ?_⟩) (by assumption) ?_
      rotate_left
      · (intro w hSw; (try dsimp only at hSw); go_simp; try with_reducible rfl)
      (try simp only [Act.put, List.setIfInBounds_toArray, List.set_cons_zero, List.set_cons_succ])
      refine take_first (v := .agg ck) 3 rfl (by kernel_rfl) (by kernel_rfl) (by kernel_rfl) (fun _ _ _ h => h) (by rw [← HCK.out]; exact yields_load_obj (by rfl) 37 (.tmp 18) rfl b _ rfl _ (fun W hW => HLA.out W hW) _ Try.underlying37 rfl (route_cellsOf r HOK.out)) (by assumption) ?_
      (try simp only [Act.put, List.setIfInBounds_toArray, List.set_cons_zero, List.set_cons_succ])
      refine take_first (v := ?_) 4 rfl (by kernel_rfl) (by kernel_rfl) (by kernel_rfl) (fun _ _ _ h => h) (Or.inl ⟨by rfl, ?_⟩) (by assumption) ?_
      rotate_left
      · (intro w hSw; (try dsimp only at hSw); go_simp; try with_reducible rfl)
      (try simp only [Act.put, List.setIfInBounds_toArray, List.set_cons_zero, List.set_cons_succ])
      refine take_first (v := ?_) 5 rfl (by kernel_rfl) (by kernel_rfl) (by kernel_rfl) (fun _ _ _ h => h) (Or.inl ⟨by rfl, ?_⟩) (by assumption) ?_
      rotate_left
      · (intro w hSw; (try dsimp only at hSw); go_simp; try with_reducible rfl)
      (try simp only [Act.put, List.setIfInBounds_toArray, List.set_cons_zero, List.set_cons_succ])
      refine take_first (v := ?_) 6 rfl (by kernel_rfl) (by kernel_rfl) (by kernel_rfl) (fun _ _ _ h => h) (Or.inl ⟨by rfl, ?_⟩) (by assumption) ?_
      rotate_left
      · (intro w hSw; (try dsimp only at hSw); go_simp; try with_reducible rfl)
      (try simp only [Act.put, List.setIfInBounds_toArray, List.set_cons_zero, List.set_cons_succ])
      refine take_first (v := .agg ck) 7 rfl (by kernel_rfl) (by kernel_rfl) (by kernel_rfl) (fun _ _ _ h => h) (by rw [← HCK.out]; exact yields_load_obj (by rfl) 37 (.tmp 22) rfl b' _ rfl _ (fun W hW => HLB.out W hW) _ Try.underlying37 rfl (route_cellsOf r HOK.out)) (by assumption) ?_
      (try simp only [Act.put, List.setIfInBounds_toArray, List.set_cons_zero, List.set_cons_succ])
      refine take_first (v := .bool false) 8 rfl (by kernel_rfl) (by kernel_rfl) (by kernel_rfl) (fun _ _ _ h => h) (yields_cmp_agg true (by rfl) 37 37 19 23 rfl ck ck true rfl rfl route_noguard (fun w' => HEQ.out w')) (by assumption) ?_
      (try simp only [Act.put, List.setIfInBounds_toArray, List.set_cons_zero, List.set_cons_succ])
      refine wpAnyH_done (by kernel_rfl) ?_ _
      go_wp2
      go_roundw
      case rel => exact ⟨j + 1, by omega, by go_num, by assumption⟩
      case measure => simp [intOf]; omega
    · obtain rfl : j = n := by omega
      have d1 : decide ((j : Int) < (j : Int)) = false := by simp
      have HF := Lib.hid HW.out
      go_wp2
      go_ret
      exact ⟨rfl, HF.out⟩

set_option maxRecDepth 100000 in
set_option maxHeartbeats 8000000 in
theorem prefixes_any (A A' : Option Addr) (n c c' : Nat) (l : List (AddrM × Int)) (hn : n ≤ 1000) (w : World) (ha : PfRd w w.heap.size A n l) (hb : PfRd w w.heap.size A' n l) :
    Calls Try.prog 19 #[.slice A n c, .slice A' n c'] w fun e w' => e = .returned (.bool true) ∧ Below w.heap.size w w' := by
  have HA := Lib.hid ha
  have HB := Lib.hid hb
  clear ha hb
  have sn : ((n : Int) != (n : Int)) = false := by simp
  go_enter Try.func19, Try.ntmps19
  go_wp2_with fail
  clear sn
  go_loopw [13] (fun i wr => ∃ j : Nat, j ≤ n ∧ i = .int .i64 (j : Int) ∧ Below w.heap.size w wr) (fun i _ => n - (intOf i).toNat)
  case atStart => exact ⟨0, Nat.zero_le _, rfl, Below.refl _ _⟩
  case round =>
    obtain ⟨j, hj, rfl, hW⟩ := hrel
    have HW := Lib.hid hW
    clear hW
    by_cases hjn : j < n
    · have d1 : decide ((j : Int) < (n : Int)) = true := by simp; omega
      obtain ⟨b, off, rfl⟩ := HA.out.1.addr (by omega)
      obtain ⟨b', off', rfl⟩ := HB.out.1.addr (by omega)
      obtain ⟨r, hr⟩ : ∃ r, l[j]? = some r := ⟨l[j]'(by rw [HA.out.len]; exact hjn), List.getElem?_eq_getElem _⟩
      have HOK := Lib.hid (HA.out.ok hr)
      have HLA := Lib.hid (show ∀ W, Below w.heap.size w W → At W b (off + j * 18) (prefC r.1 r.2) from fun W hW => (HA.out.at j r hr).2.mono hW (HA.out.at j r hr).1)
      have HLB := Lib.hid (show ∀ W, Below w.heap.size w W → At W b' (off' + j * 18) (prefC r.1 r.2) from fun W hW => (HB.out.at j r hr).2.mono hW (HB.out.at j r hr).1)
      have heq := fun w' : World => (by simpa using pref_eqd r.1 r.1 r.2 r.2 HOK.out.1 HOK.out.1 HOK.out.2 HOK.out.2 w')
      obtain ⟨ck, hck⟩ : ∃ c, ((prefC r.1 r.2)).toArray = c := ⟨_, rfl⟩
      rw [hck] at heq
      have HEQ := Lib.hid heq
      have HCK := Lib.hid hck
      clear hck hr heq
      go_upto_region 6 with fail
      clear d1
      refine wp_region_held_drew (S := fun W' => Below w.heap.size w W') (by kernel_rfl) (HW.out.drew) (fun hHeld => ?_)
      refine take_first (v := ?_) 0 rfl (by kernel_rfl) (by kernel_rfl) (by kernel_rfl) (fun _ _ _ h => h) (Or.inl ⟨by rfl, ?_⟩) (by assumption) ?_
      rotate_left
      · (intro w hSw; (try dsimp only at hSw); go_simp; try with_reducible rfl)
      (try simp only [Act.put, List.setIfInBounds_toArray, List.set_cons_zero, List.set_cons_succ])
      refine take_first (v := ?_) 1 rfl (by kernel_rfl) (by kernel_rfl) (by kernel_rfl) (fun _ _ _ h => h) (Or.inl ⟨by rfl, ?_⟩) (by assumption) ?_
      rotate_left
      · (intro w hSw; (try dsimp only at hSw); go_simp; try with_reducible rfl)
      (try simp only [Act.put, List.setIfInBounds_toArray, List.set_cons_zero, List.set_cons_succ])
      refine take_first (v := ?_) 2 rfl (by kernel_rfl) (by kernel_rfl) (by kernel_rfl) (fun _ _ _ h => h) (Or.inl ⟨by rfl, ?_⟩) (by assumption) ?_
      rotate_left
      · (intro w hSw; (try dsimp only at hSw); go_simp; try with_reducible rfl)
      (try simp only [Act.put, List.setIfInBounds_toArray, List.set_cons_zero, List.set_cons_succ])
      refine take_first (v := .agg ck) 3 rfl (by kernel_rfl) (by kernel_rfl) (by kernel_rfl) (fun _ _ _ h => h) (by rw [← HCK.out]; exact yields_load_obj (by rfl) 28 (.tmp 18) rfl b _ rfl _ (fun W hW => HLA.out W hW) _ Try.underlying28 rfl (pref_cellsOf' r.1 HOK.out.1 r.2)) (by assumption) ?_
      (try simp only [Act.put, List.setIfInBounds_toArray, List.set_cons_zero, List.set_cons_succ])
      refine take_first (v := ?_) 4 rfl (by kernel_rfl) (by kernel_rfl) (by kernel_rfl) (fun _ _ _ h => h) (Or.inl ⟨by rfl, ?_⟩) (by assumption) ?_
      rotate_left
      · (intro w hSw; (try dsimp only at hSw); go_simp; try with_reducible rfl)
      (try simp only [Act.put, List.setIfInBounds_toArray, List.set_cons_zero, List.set_cons_succ])
      refine take_first (v := ?_) 5 rfl (by kernel_rfl) (by kernel_rfl) (by kernel_rfl) (fun _ _ _ h => h) (Or.inl ⟨by rfl, ?_⟩) (by assumption) ?_
      rotate_left
      · (intro w hSw; (try dsimp only at hSw); go_simp; try with_reducible rfl)
      (try simp only [Act.put, List.setIfInBounds_toArray, List.set_cons_zero, List.set_cons_succ])
      refine take_first (v := ?_) 6 rfl (by kernel_rfl) (by kernel_rfl) (by kernel_rfl) (fun _ _ _ h => h) (Or.inl ⟨by rfl, ?_⟩) (by assumption) ?_
      rotate_left
      · (intro w hSw; (try dsimp only at hSw); go_simp; try with_reducible rfl)
      (try simp only [Act.put, List.setIfInBounds_toArray, List.set_cons_zero, List.set_cons_succ])
      refine take_first (v := .agg ck) 7 rfl (by kernel_rfl) (by kernel_rfl) (by kernel_rfl) (fun _ _ _ h => h) (by rw [← HCK.out]; exact yields_load_obj (by rfl) 28 (.tmp 22) rfl b' _ rfl _ (fun W hW => HLB.out W hW) _ Try.underlying28 rfl (pref_cellsOf' r.1 HOK.out.1 r.2)) (by assumption) ?_
      (try simp only [Act.put, List.setIfInBounds_toArray, List.set_cons_zero, List.set_cons_succ])
      refine take_first (v := .bool false) 8 rfl (by kernel_rfl) (by kernel_rfl) (by kernel_rfl) (fun _ _ _ h => h) (yields_cmp_agg true (by rfl) 28 28 19 23 rfl ck ck true rfl rfl prefix_noguard (fun w' => HEQ.out w')) (by assumption) ?_
      (try simp only [Act.put, List.setIfInBounds_toArray, List.set_cons_zero, List.set_cons_succ])
      refine wpAnyH_done (by kernel_rfl) ?_ _
      go_wp2
      go_roundw
      case rel => exact ⟨j + 1, by omega, by go_num, by assumption⟩
      case measure => simp [intOf]; omega
    · obtain rfl : j = n := by omega
      have d1 : decide ((j : Int) < (j : Int)) = false := by simp
      have HF := Lib.hid HW.out
      go_wp2
      go_ret
      exact ⟨rfl, HF.out⟩
end Go.Proofs.Ytnblofbbbkjhpaa
namespace Go.Proofs.Ytnblofbbbkjhpaa
open Go.RowKit

def pfL (A : Option Addr) (n : Nat) (l : List (AddrM × Int)) : Low := ⟨fun W => PfRd W W.heap.size A n l, fun _ _ hb h => (h.below hb).mono hb.size⟩
end Go.Proofs.Ytnblofbbbkjhpaa
namespace Go.Proofs.Ytnblofbbbkjhpaa
open Go.RowKit

/-- what is asked of a predicate that is handed on, in every world in which what lies below B is as it was -/
def PredB (P : Program) (F : Nat) (lb : Array Value) (p : List Value → Bool) (B : Nat) (w : World) (os : List (List Value)) : Prop :=
  ∀ o ∈ os, ∀ W, Below B w W → Calls P F (#[.agg o.toArray] ++ lb) W fun e W' => e = .returned (.bool (p o)) ∧ Below W.heap.size W W'
def idxM (p : List Value → Bool) (os : List (List Value)) : Int := match os.findIdx? p with
  | none => -1
  | some i => (i : Int)
theorem idxM_none {p : List Value → Bool} {os : List (List Value)} (h : ∀ o ∈ os, p o = false) : idxM p os = -1 := by
  have e : os.findIdx? p = none := List.findIdx?_eq_none_iff.2 h
  unfold idxM
  rw [e]
theorem idxM_some {p : List Value → Bool} {os : List (List Value)} {j : Nat} {o : List Value} (ho : os[j]? = some o) (hp : p o = true) (hn : ∀ (q : Nat) x, q < j → os[q]? = some x → p x = false) : idxM p os = (j : Int) := by
  obtain ⟨hi, rfl⟩ := List.getElem?_eq_some_iff.1 ho
  have e : os.findIdx? p = some j := by
    rw [List.findIdx?_eq_some_iff_getElem]
    exact ⟨hi, hp, fun q hq => by simpa using hn q _ hq (List.getElem?_eq_getElem (by omega))⟩
  unfold idxM
  rw [e]
theorem all_false {p : List Value → Bool} {os : List (List Value)} {n : Nat} (hl : os.length = n) (h : ∀ (q : Nat) x, q < n → os[q]? = some x → p x = false) : ∀ o ∈ os, p o = false := by
  intro o ho
  obtain ⟨i, hi, rfl⟩ := List.getElem_of_mem ho
  exact h i _ (by omega) (List.getElem?_eq_getElem hi)
theorem idxM_cases (p : List Value → Bool) (os : List (List Value)) : (∀ o ∈ os, p o = false) ∨ ∃ j o, os[j]? = some o ∧ p o = true ∧ ∀ (q : Nat) x, q < j → os[q]? = some x → p x = false := by
  cases h : os.findIdx? p with
  | none => exact .inl (List.findIdx?_eq_none_iff.1 h)
  | some j =>
    obtain ⟨hi, hp, hn⟩ := List.findIdx?_eq_some_iff_getElem.1 h
    exact .inr ⟨j, os[j], List.getElem?_eq_getElem hi, hp, fun q x hq hx => by
      obtain ⟨hqi, rfl⟩ := List.getElem?_eq_some_iff.1 hx
      simpa using hn q hq⟩
theorem blk_at {w : World} {g : Nat} {t : TypeId} {k i : Nat} {cs : List (List Value)} {rest o : List Value} (h : Blk w g t (cs.flatten ++ rest)) (hk : ∀ o ∈ cs, o.length = k) (ho : cs[i]? = some o) : At w g (i * k) o := by
  intro j v hj
  rw [h.cell, List.getElem?_append_left]
  · exact flat_at hk i o ho j v hj
  · exact (List.getElem?_eq_some_iff.1 (flat_at hk i o ho j v hj)).1
theorem blk_row {w : World} {g : Nat} {t : TypeId} {k n : Nat} {cs : List (List Value)} {rest : List Value} (h : Blk w g t (cs.flatten ++ rest)) (hk : ∀ o ∈ cs, o.length = k) (hn : cs.length = n) : RdRow w w.heap.size (some ⟨g, 0, none⟩) k n cs :=
  ⟨hn, hk, fun _ => ⟨g, 0, rfl, h.lt, fun j v hj => by
    rw [h.cell, Nat.zero_add, List.getElem?_append_left (List.getElem?_eq_some_iff.1 hj).1]
    exact hj⟩⟩
theorem flat_set {k m : Nat} {cs : List (List Value)} {rest o : List Value} (hk : ∀ o ∈ cs, o.length = k) (ho : o.length = k) (hm : m < cs.length) : setL (cs.flatten ++ rest) (m * k) o = (cs.set m o).flatten ++ rest := by
  have hl := flat_length hk
  have h1 : (m + 1) * k ≤ cs.length * k := Nat.mul_le_mul_right k hm
  have h2 : m * k + k = (m + 1) * k := (Nat.succ_mul m k).symm
  rw [setL, ho, h2, List.take_append_of_le_length (by omega), List.drop_append_of_le_length (by omega), ← flat_take m hk, ← flat_drop (m + 1) hk, List.set_eq_take_append_cons_drop, if_pos hm]
  simp
theorem set_mem {k m : Nat} {cs : List (List Value)} {o : List Value} (hk : ∀ o ∈ cs, o.length = k) (ho : o.length = k) : ∀ x ∈ cs.set m o, x.length = k := by
  intro x hx
  rcases List.mem_or_eq_of_mem_set hx with h | rfl
  · exact hk x h
  · exact ho
theorem one_flat {cs : List (List Value)} (h : ∀ o ∈ cs, ∀ v ∈ o, v.oneCell' = true) : ∀ v ∈ cs.flatten, v.oneCell' = true := fun v hv => by
  obtain ⟨o, ho, h2⟩ := List.mem_flatten.1 hv
  exact h o ho v h2
theorem own_sliceK {w : World} {base e k n : Nat} {v : Value} {xs : List Value} (h : w.ownsRow base e k v n xs) : ∃ A c, v = .slice A n c ∧ n ≤ c ∧ c ≤ maxLen ∧ ∀ ad, A = some ad → base ≤ ad.block := by
  rcases h.2 with ⟨rfl, rfl⟩ | ⟨g, cap, cur, rfl, hb, _, hn, hm, _⟩
  · exact ⟨none, 0, rfl, Nat.le_refl _, by unfold maxLen; omega, fun _ h => by cases h⟩
  · exact ⟨_, _, rfl, hn, hm, fun ad h => by injection h with h; subst h; exact hb⟩
/-- the builtin clear of the elements of a slice that lie in a block -/
theorem run_clear_objs {P : Program} (w : World) (t e ty : TypeId) (ht : P.underlying t = some (.slice e)) (z : Value) (hv : ∀ w, (zeroValue e).run P w = .ok z w) (h1 : ∀ v ∈ z.cells.toList, v.oneCell' = true) (g off n c : Nat) (bt : TypeId) (old : List Value) (hg : Blk w g bt old) (hfit : off + n * z.cells.size ≤ old.length) (hn : 0 < n) :
    ∃ w', (Builtin.clear_ #[t] ty #[.slice (some ⟨g, off, none⟩) n c]).run P w = .ok (.tuple #[]) w' ∧ Blk w' g bt (setL old off (Builtin.zeroCells z.cells n).toList) ∧ w.grownBy w' (some g) := by
  obtain ⟨m, rfl⟩ : ∃ m, n = m + 1 := ⟨n - 1, by omega⟩
  have hl : (Builtin.zeroCells z.cells (m + 1)).toList.length = (m + 1) * z.cells.size := by simp [Builtin.zeroCells]
  have ho : ∀ v ∈ (Builtin.zeroCells z.cells (m + 1)).toList, v.oneCell' = true := by
    intro v hv
    simp only [Builtin.zeroCells, Array.toList_map, Array.toList_range, List.mem_map, List.mem_range] at hv
    obtain ⟨i, hi, rfl⟩ := hv
    have hs : 0 < z.cells.size := by
      rcases Nat.eq_zero_or_pos z.cells.size with h | h
      · rw [h] at hi; omega
      · exact h
    refine h1 _ ?_
    have hlt := Nat.mod_lt i hs
    rw [getElem!_pos z.cells _ hlt]
    simp
  have hst := run_storeCells_at P g off bt (Builtin.zeroCells z.cells (m + 1)).toList 0 old.toArray w hg (by simpa [hl] using hfit) ho
  rw [Nat.add_zero] at hst
  refine ⟨w.setRow g (old.toArray.toList.take off ++ (Builtin.zeroCells z.cells (m + 1)).toList ++ old.toArray.toList.drop (off + (Builtin.zeroCells z.cells (m + 1)).toList.length)).toArray, ?_, ?_, ⟨rfl, rfl, rfl, by simp, fun k _ hk => setRow_other w g k _ (fun e => hk (by simp [e]))⟩⟩
  · simp only [Builtin.clear_, List.getElem?_toArray, List.getElem?_cons_zero, Sem.run_bind, run_underlying ht, Result.andThen_ok, hv]
    rw [hst]
    rfl
  · exact setRow_heap w g old.toArray _ bt _ hg
theorem wpList_clear_objs {P : Program} (w : World) {ops : Array Oper} {rest : List Oper} {o : Oper} {a : Act} {Q : Exit → Act → World → Prop} (hgd : o.guard = none) (d : Operand) (t e : TypeId)
    (ho : o.op = .call { callee := .builtin .clear, args := #[d], argTypes := #[t] }) (ht : P.underlying t = some (.slice e)) (z : Value) (hv : ∀ w, (zeroValue e).run P w = .ok z w) (h1 : ∀ v ∈ z.cells.toList, v.oneCell' = true)
    (g off n c : Nat) (hd : a.eval d = .slice (some ⟨g, off, none⟩) n c) (bt : TypeId) (old : List Value) (hg : Blk w g bt old) (hfit : off + n * z.cells.size ≤ old.length) (hn : 0 < n)
    (h : ∀ w', Blk w' g bt (setL old off (Builtin.zeroCells z.cells n).toList) → w.grownBy w' (some g) → wpList P ops Q rest (a.put o.dst (.tuple #[])) w') : wpList P ops Q (o :: rest) a w := by
  refine wpList_plain hgd fun K hK => ?_
  obtain ⟨w', hrun, h2, h3⟩ := run_clear_objs (P := P) w t e o.type ht z hv h1 g off n c bt old hg hfit hn
  unfold Oper.wp execOp
  simp only [ho, resolve, invoke, builtin, Sem.run_bind, Sem.run_pure, Result.andThen_ok, List.map_toArray, List.map_cons, List.map_nil, hd, hrun]
  exact hK _ _ (h w' h2 h3)
end Go.Proofs.Ytnblofbbbkjhpaa
namespace Go.Proofs.Ytnblofbbbkjhpaa
open Go.RowKit

theorem rt_size (o : List Value) (h : o.length = 50) : (Try.prog.info? 37).map (·.size) = some o.length := by
  rw [h]; kernel_rfl
theorem rt_under : Try.prog.underlying 23 = some (.slice (Try.prog.elem 23)) := by kernel_rfl
theorem rt_elem : Try.prog.elem 23 = 37 := by kernel_rfl
theorem rt_sizeOf (w : World) : (sizeOf (Try.prog.elem 23)).run Try.prog w = .ok 50 w := by
  obtain ⟨i0, hi, _, hs, _⟩ := routeInfo
  rw [rt_elem]
  simp [sizeOf, typeInfo, hi, hs]
theorem rt_zero (w : World) : (zeroValue 37).run Try.prog w = .ok (.agg routeZ.toArray) w := by
  obtain ⟨i0, hi, hz, _, _⟩ := routeInfo
  simp [zeroValue, typeInfo, hi, hz]
set_option maxRecDepth 100000 in
theorem rt_l (A : Option Addr) (n c i : Nat) (h2 : i ≤ n) (w : World) : (Instr.sliceAt 23 (.slice A n c) (some (.int .i64 (i : Int))) none none).run Try.prog w = .ok (.slice (addrK A i c 50) (n - i) (c - i)) w := by
  rw [run_sliceAt_slice (P := Try.prog) (w := w) 23 _ _ _ _ rt_under, run_slice_l (P := Try.prog) (w := w) 23 A n c rt_under .i64 i (by omega) (by omega), rt_sizeOf]
  simp only [Result.andThen, sliced, Int.toNat_natCast]
  rfl
set_option maxRecDepth 100000 in
theorem rt_h {n : Nat} (A : Option Addr) (c j : Nat) (h2 : j ≤ n) (h3 : n ≤ c) (w : World) : (Instr.sliceAt 23 (.slice A n c) none (some (.int .i64 (j : Int))) none).run Try.prog w = .ok (.slice (addrK A 0 c 50) j c) w := by
  rw [run_sliceAt_slice (P := Try.prog) (w := w) 23 _ _ _ _ rt_under, run_slice_h (P := Try.prog) (w := w) 23 A n c rt_under .i64 j (by omega) (by omega), rt_sizeOf]
  simp only [Result.andThen, sliced, Int.toNat_natCast, Nat.sub_zero]
  rfl
theorem addrK_zero_some (b off c k : Nat) : addrK (some ⟨b, off, none⟩) 0 c k = some ⟨b, off, none⟩ := by
  unfold addrK
  split
  · rfl
  · rw [Option.map_some, Go.WideShapes.add_plain, Nat.zero_mul, Nat.add_zero]
theorem addrK_some {b off i c k : Nat} (h : i < c) : addrK (some ⟨b, off, none⟩) i c k = some ⟨b, off + i * k, none⟩ := by
  unfold addrK
  rw [if_neg (by omega), Option.map_some, Go.WideShapes.add_plain]
end Go.Proofs.Ytnblofbbbkjhpaa
namespace Go.Proofs.Ytnblofbbbkjhpaa
open Go.RowKit

set_option maxRecDepth 100000 in
set_option maxHeartbeats 16000000 in
theorem rtGrow_any (n : Nat) (hn : n ≤ 1000) (w : World) :
    Calls Try.prog 52 #[.slice none 0 0, .int .i64 (n : Int)] w fun e w' => ∃ v, e = .returned v ∧ w'.ownsRow w.heap.size 37 50 v 0 [] ∧ Below w.heap.size w w' := by
  obtain ⟨ik, hik, hiz, his, hib⟩ := routeInfo
  have HKI := Lib.hid (And.intro hik (And.intro hiz (And.intro his hib)))
  clear hik hiz his hib
  have q1 : IntKind.i64.wrap (n : Int) = (n : Int) := IntWalk.i64_in _ (by omega)
  rcases Nat.eq_zero_or_pos n with h0 | h0
  · subst h0
    go_enter Try.func52, Try.ntmps52
    go_wp2
    go_ret
    exact ⟨_, rfl, World.ownsRow_nil _ _ _ _, Below.refl _ _⟩
  · have d1 : decide ((n : Int) > 0) = true := by simp; omega
    have d2 : decide ((n : Int) < 0) = false := by simp
    have happ := Lib.run_append_nil_zeros (P := Try.prog) w 23 3 23 37 ik (.agg routeZ.toArray) .i64 .i64 Try.underlying23 Try.underlying3 HKI.out.1 HKI.out.2.1 n h0 (by rw [HKI.out.2.2.1]; omega) (by omega) (by rw [HKI.out.2.2.2]; omega)
    have hge := grownCap_ge w n 0 37
    have hcm := grownCap_le_maxLen w n 0 37 (by unfold maxLen; omega)
    obtain ⟨cp, hcp⟩ : ∃ z, grownCap w n 0 37 = z := ⟨_, rfl⟩
    rw [hcp] at happ hge hcm
    obtain ⟨cur, hcur⟩ : ∃ z, Builtin.zeroCells (Value.agg routeZ.toArray).cells n ++ Builtin.zeroCells (Value.agg routeZ.toArray).cells (cp - n) = z := ⟨_, rfl⟩
    have HS := Lib.hid (show cur.size = cp * 50 by
      rw [← hcur, Array.size_append, size_zeroCells, size_zeroCells, show (Value.agg routeZ.toArray).cells.size = 50 by rfl, ← Nat.add_mul]
      congr 1
      omega)
    rw [hcur] at happ
    have HA := Lib.hid happ
    have HC := Lib.hid hcm
    have hsl := rt_h (some ⟨w.heap.size, 0, none⟩) (n := n) cp 0 (Nat.zero_le _) hge
    rw [addrK_zero_some, show ((0 : Nat) : Int) = 0 from rfl] at hsl
    clear happ hge hcm hcp hcur
    go_enter Try.func52, Try.ntmps52
    go_wp2_with (at_builtin; refine Lib.wpList_append_run _ rfl _ _ _ _ rfl _ _ rfl rfl _ _ HA.out ?_)
    go_ret
    exact ⟨_, rfl, World.ownsRow_made w.drew cur cp (Nat.le_refl _) HC.out HS.out, (Below.refl _ _).drew.alloc (Nat.le_refl _) _⟩
end Go.Proofs.Ytnblofbbbkjhpaa
namespace Go.Proofs.Ytnblofbbbkjhpaa
open Go.RowKit

/-- slices of objects: where each lies, its length and capacity, and what it holds -/
abbrev RtPart := (Option Addr × Nat × Nat) × List (List Value)
def rtPartV (x : RtPart) : Value := .slice x.1.1 x.1.2.1 x.1.2.2
def rtLenP (ps : List RtPart) : Nat := (ps.map fun x => x.1.2.1).sum
theorem rtLenP_snoc {ps : List RtPart} {j : Nat} {x : RtPart} (h : ps[j]? = some x) : rtLenP (ps.take (j + 1)) = rtLenP (ps.take j) + x.1.2.1 := by
  rw [rtLenP, take_snoc h, List.map_append, List.sum_append]
  simp [rtLenP]
theorem rtLenP_take (ps : List RtPart) (j : Nat) : rtLenP (ps.take j) ≤ rtLenP ps := by
  have h := congrArg rtLenP (List.take_append_drop j ps)
  rw [rtLenP, List.map_append, List.sum_append] at h
  unfold rtLenP at *
  omega
theorem rtFlat_snoc {ps : List RtPart} {j : Nat} {x : RtPart} (h : ps[j]? = some x) : ((ps.take (j + 1)).flatMap (·.2)).flatten = ((ps.take j).flatMap (·.2)).flatten ++ x.2.flatten := by
  rw [take_snoc h, List.flatMap_append, List.flatten_append]
  simp
set_option maxRecDepth 100000 in
set_option maxHeartbeats 16000000 in
theorem rtConcat_any (b off q c : Nat) (ps : List RtPart) (hq : ps.length = q) (hq1 : q ≤ 1000) (hsum : rtLenP ps ≤ 1000) (w : World) (hlt : b < w.heap.size) (hat : At w b off (ps.map rtPartV)) (hps : ∀ x ∈ ps, RdRow w w.heap.size x.1.1 50 x.1.2.1 x.2 ∧ ∀ o ∈ x.2, ∀ v ∈ o, v.oneCell' = true) :
    Calls Try.prog 36 #[.slice (some ⟨b, off, none⟩) q c] w fun e w' => ∃ A' c', e = .returned (.slice A' (rtLenP ps) c') ∧ w'.ownsRow w.heap.size 37 50 (.slice A' (rtLenP ps) c') (rtLenP ps) (ps.flatMap (·.2)).flatten ∧ Below w.heap.size w w' := by
  have HAT := Lib.hid (show ∀ W, Below w.heap.size w W → At W b off (ps.map rtPartV) from fun W hW j v hv => (World.cell?_of_block (hW.block b hlt)).trans (hat j v hv))
  have HPS := Lib.hid hps
  have HQ := Lib.hid (And.intro hq hq1)
  have HSM := Lib.hid (show ∀ j, rtLenP (ps.take j) ≤ 1000 from fun j => Nat.le_trans (rtLenP_take ps j) hsum)
  obtain ⟨ik, hik, hiz, his, hib⟩ := routeInfo
  have HKI := Lib.hid (And.intro hik (And.intro hiz (And.intro his hib)))
  clear hik hiz his hib
  obtain ⟨tot, htot⟩ : ∃ z, rtLenP ps = z := ⟨_, rfl⟩
  rw [htot] at hsum
  have HGR := Lib.hid (rtGrow_any tot hsum)
  have HTOT := Lib.hid htot
  rw [htot]
  clear hat hps hq htot
  go_enter Try.func36, Try.ntmps36
  go_wp2_with fail
  go_loopw [11, 3] (fun vj vs wr => ∃ j s : Nat, j ≤ q ∧ vj = .int .i64 (j : Int) ∧ vs = .int .i64 (s : Int) ∧ rtLenP (ps.take j) = s ∧ Below w.heap.size w wr) (fun vj _ _ => q - (intOf vj).toNat)
  case atStart => exact ⟨0, 0, Nat.zero_le _, rfl, rfl, rfl, Below.refl _ _⟩
  case round =>
    obtain ⟨j, s, hj, rfl, rfl, hs, hbl⟩ := hrel
    have HBL := Lib.hid hbl
    have HS := Lib.hid hs
    clear hbl hs
    by_cases hjq : j < q
    · have d1 : decide ((j : Int) < (q : Int)) = true := by simp; omega
      obtain ⟨x, hx⟩ : ∃ x, ps[j]? = some x := ⟨ps[j]'(by rw [HQ.out.1]; exact hjq), List.getElem?_eq_getElem _⟩
      have hc := HAT.out wr HBL.out j (rtPartV x) (by rw [List.getElem?_map, hx]; rfl)
      have hsn := rtLenP_snoc hx
      rw [HS.out] at hsn
      obtain ⟨⟨Ax, nx, cx⟩, ox⟩ := x
      have hc' : wr.cell? ⟨b, off + j, none⟩ = some (.slice Ax nx cx) := hc
      have hb1 := HSM.out (j + 1)
      rw [hsn] at hb1
      have HSN := Lib.hid hsn
      clear hc hsn hx
      have hb2 : s + nx ≤ 1000 := hb1
      have d2 : decide ((s : Int) + (nx : Int) < 0) = false := by simp; omega
      clear hb1
      go_wp2_with fail
      go_roundw
      case rel => exact ⟨j + 1, s + nx, by omega, by go_num, by go_num, HSN.out, by assumption⟩
      case measure => simp [intOf]; omega
    · obtain rfl : q = j := by omega
      have d1 : decide ((q : Int) < (q : Int)) = false := by simp
      have hst : tot = s := by rw [← HTOT.out, ← HS.out, List.take_of_length_le (by rw [HQ.out.1]; exact Nat.le_refl _)]
      subst hst
      clear HS
      go_wp2_with fail
      refine (HGR.out _).mono ?_
      rintro e w2 ⟨v2, rfl, hown, hb⟩
      have HO := Lib.hid (And.intro (own_base hown HBL.out.size) (HBL.out.trans (hb.mono HBL.out.size)))
      clear hown hb HBL HGR
      go_wp2_with fail
      go_loopw [27, 6] (fun vj vo wr => ∃ j s : Nat, j ≤ q ∧ vj = .int .i64 (j : Int) ∧ rtLenP (ps.take j) = s ∧ wr.ownsRow w.heap.size 37 50 vo s ((ps.take j).flatMap (·.2)).flatten ∧ Below w.heap.size w wr) (fun vj _ _ => q - (intOf vj).toNat)
      case atStart => exact ⟨0, 0, Nat.zero_le _, rfl, rfl, HO.out.1, HO.out.2⟩
      case round =>
        clear HO
        obtain ⟨j, s, hj, rfl, hs, hown, hbl⟩ := hrel
        have HO := Lib.hid (And.intro hown hbl)
        have HS := Lib.hid hs
        clear hown hbl hs
        by_cases hjq : j < q
        · have d1 : decide ((j : Int) < (q : Int)) = true := by simp; omega
          obtain ⟨x, hx⟩ : ∃ x, ps[j]? = some x := ⟨ps[j]'(by rw [HQ.out.1]; exact hjq), List.getElem?_eq_getElem _⟩
          have hc := HAT.out _ HO.out.2 j (rtPartV x) (by rw [List.getElem?_map, hx]; rfl)
          have hsn := rtLenP_snoc hx
          rw [HS.out] at hsn
          have HFS := Lib.hid (rtFlat_snoc hx)
          have hpx := HPS.out x (List.mem_of_getElem? hx)
          obtain ⟨⟨Ax, nx, cx⟩, ox⟩ := x
          have hc' := hc
          simp only [rtPartV] at hc'
          have hb1 := HSM.out (j + 1)
          rw [hsn] at hb1
          have HSN := Lib.hid (And.intro hsn hb1)
          have HPX := Lib.hid (And.intro ((hpx.1.below HO.out.2).mono HO.out.2.size) (one_flat hpx.2))
          clear hc hsn hx hb1 hpx
          go_wp2_with (refine wpList_append_rows _ rfl (.tmp 31) (.tmp 32) 23 rfl w.heap.size 37 ik _ 50 64 Try.underlying23 HKI.out.1 HKI.out.2.1 HKI.out.2.2.1 HKI.out.2.2.2 (by rfl) (by omega) u6 s _ rfl HO.out.1 _ Ax nx cx ox rfl HPX.out.1 HPX.out.2 (by unfold maxLen; have := HSN.out.2; simp only at this; omega) (by have := HSN.out.2; simp only at this; omega) HO.out.2.size ?_; intro v6 w6 ho6 hg6 _)
          go_roundw
          case rel => exact ⟨j + 1, s + nx, by omega, by go_num, HSN.out.1, by rw [HFS.out]; exact ho6, HO.out.2.grown hg6 HO.out.2.size (own_from HO.out.1)⟩
          case measure => simp [intOf]; omega
        · obtain rfl : q = j := by omega
          have d1 : decide ((q : Int) < (q : Int)) = false := by simp
          have htk : ps.take q = ps := List.take_of_length_le (by rw [HQ.out.1]; exact Nat.le_refl _)
          have hst : s = tot := by rw [← HTOT.out, ← HS.out, htk]
          subst hst
          rw [htk] at HO
          obtain ⟨A9, c9, rfl, -, -, -⟩ := own_sliceK HO.out.1
          have HF := Lib.hid HO.out
          clear HO HS htk
          go_wp2
          go_ret
          exact ⟨A9, c9, rfl, HF.out.1, HF.out.2⟩
end Go.Proofs.Ytnblofbbbkjhpaa
namespace Go.Proofs.Ytnblofbbbkjhpaa
open Go.RowKit

set_option maxRecDepth 100000 in
set_option maxHeartbeats 8000000 in
theorem insPred_any (a : AddrM) (bits : Int) (hoa : a.ok) (hob : inI64 bits) (r : RouteM) (hr : r.ok) (G : Nat) (W : World) (hG : G < W.heap.size) (hat : At W G 0 (prefC a bits)) :
    Calls Try.prog 35 #[.agg r.cells.toArray, .pointer (some ⟨G, 0, none⟩)] W fun e W' => e = .returned (.bool (RouteM.is a bits r)) ∧ Below W.heap.size W W' := by
  have heq := pref_eqd r.a a r.bits bits hr.1 hoa hr.2.2 hob
  have HU := Lib.hid (pref_cellsOf' a hoa bits)
  have HR := Lib.hid hr
  obtain ⟨rc, hrc⟩ : ∃ z, r.cells.toArray = z := ⟨_, rfl⟩
  obtain ⟨fc, hfc⟩ : ∃ z, (prefC r.a r.bits).toArray = z := ⟨_, rfl⟩
  obtain ⟨pa, hpa⟩ : ∃ z, (prefC a bits).toArray = z := ⟨_, rfl⟩
  obtain ⟨y, hy⟩ : ∃ y, RouteM.is a bits r = y := ⟨_, rfl⟩
  have hy' : decide (r.a = a ∧ r.bits = bits) = y := hy
  rw [hfc, hpa, hy'] at heq
  rw [hrc, hy]
  have HEQ := Lib.hid heq
  have HFC := Lib.hid hfc
  have HPA := Lib.hid hpa
  have hb := (Below.refl W.heap.size W).alloc (Nat.le_refl _) (.cells rc 37)
  have HP := Lib.hid (show Blk (W.alloc (.cells rc 37)) W.heap.size 37 r.cells from by rw [← hrc]; exact Blk.new W 37 r.cells)
  have HAT := Lib.hid (show At (W.alloc (.cells rc 37)) G 0 (prefC a bits) from hat.mono hb hG)
  have HB := Lib.hid hb
  clear heq hr hat hrc hfc hpa hy hy' hb
  go_enter Try.func35, Try.ntmps35
  go_upto_region 1 with fail
  generalize W.alloc (.cells rc 37) = w1 at HP HAT HB ⊢
  generalize W.heap.size = P1 at HP ⊢
  go_wp2_with (first | (refine wpList_load_obj rfl 28 (.tmp 4) rfl P1 0 rfl (prefC r.a r.bits) (route_pref HP.out.all) _ Try.underlying28 rfl (pref_cellsOf' r.a HR.out.1 r.bits) ?_; rw [HFC.out]) | (refine wpList_load_obj rfl 28 (.tmp 1) rfl G 0 rfl (prefC a bits) HAT.out _ Try.underlying28 rfl HU.out ?_; rw [HPA.out]) | (refine wpList_eql_agg (by rfl) 28 28 5 6 rfl fc pa y rfl rfl prefix_noguard (HEQ.out _) ?_))
  go_ret
  exact ⟨rfl, HB.out⟩
set_option maxRecDepth 100000 in
set_option maxHeartbeats 8000000 in
theorem remPred_any (a : AddrM) (bits : Int) (hoa : a.ok) (hob : inI64 bits) (r : RouteM) (hr : r.ok) (G : Nat) (W : World) (hG : G < W.heap.size) (hat : At W G 0 (prefC a bits)) :
    Calls Try.prog 42 #[.agg r.cells.toArray, .pointer (some ⟨G, 0, none⟩)] W fun e W' => e = .returned (.bool (RouteM.is a bits r)) ∧ Below W.heap.size W W' := by
  have heq := pref_eqd r.a a r.bits bits hr.1 hoa hr.2.2 hob
  have HU := Lib.hid (pref_cellsOf' a hoa bits)
  have HR := Lib.hid hr
  obtain ⟨rc, hrc⟩ : ∃ z, r.cells.toArray = z := ⟨_, rfl⟩
  obtain ⟨fc, hfc⟩ : ∃ z, (prefC r.a r.bits).toArray = z := ⟨_, rfl⟩
  obtain ⟨pa, hpa⟩ : ∃ z, (prefC a bits).toArray = z := ⟨_, rfl⟩
  obtain ⟨y, hy⟩ : ∃ y, RouteM.is a bits r = y := ⟨_, rfl⟩
  have hy' : decide (r.a = a ∧ r.bits = bits) = y := hy
  rw [hfc, hpa, hy'] at heq
  rw [hrc, hy]
  have HEQ := Lib.hid heq
  have HFC := Lib.hid hfc
  have HPA := Lib.hid hpa
  have hb := (Below.refl W.heap.size W).alloc (Nat.le_refl _) (.cells rc 37)
  have HP := Lib.hid (show Blk (W.alloc (.cells rc 37)) W.heap.size 37 r.cells from by rw [← hrc]; exact Blk.new W 37 r.cells)
  have HAT := Lib.hid (show At (W.alloc (.cells rc 37)) G 0 (prefC a bits) from hat.mono hb hG)
  have HB := Lib.hid hb
  clear heq hr hat hrc hfc hpa hy hy' hb
  go_enter Try.func42, Try.ntmps42
  go_upto_region 1 with fail
  generalize W.alloc (.cells rc 37) = w1 at HP HAT HB ⊢
  generalize W.heap.size = P1 at HP ⊢
  go_wp2_with (first | (refine wpList_load_obj rfl 28 (.tmp 4) rfl P1 0 rfl (prefC r.a r.bits) (route_pref HP.out.all) _ Try.underlying28 rfl (pref_cellsOf' r.a HR.out.1 r.bits) ?_; rw [HFC.out]) | (refine wpList_load_obj rfl 28 (.tmp 1) rfl G 0 rfl (prefC a bits) HAT.out _ Try.underlying28 rfl HU.out ?_; rw [HPA.out]) | (refine wpList_eql_agg (by rfl) 28 28 5 6 rfl fc pa y rfl rfl prefix_noguard (HEQ.out _) ?_))
  go_ret
  exact ⟨rfl, HB.out⟩
set_option maxRecDepth 100000 in
set_option maxHeartbeats 8000000 in
theorem peerPred_any (k : List UInt8) (hk : k.length = 32) (r : RouteM) (hr : r.ok) (G : Nat) (W : World) (hG : G < W.heap.size) (hat : At W G 0 (k.map u8v)) :
    Calls Try.prog 43 #[.agg r.cells.toArray, .pointer (some ⟨G, 0, none⟩)] W fun e W' => e = .returned (.bool (decide (r.peer = k))) ∧ Below W.heap.size W W' := by
  have heq := key_eq r.peer k hr.2.1 hk
  have HU := Lib.hid (key_cellsOf k hk)
  have HR := Lib.hid hr
  obtain ⟨rc, hrc⟩ : ∃ z, r.cells.toArray = z := ⟨_, rfl⟩
  obtain ⟨fc, hfc⟩ : ∃ z, (r.peer.map u8v).toArray = z := ⟨_, rfl⟩
  obtain ⟨pa, hpa⟩ : ∃ z, (k.map u8v).toArray = z := ⟨_, rfl⟩
  obtain ⟨y, hy⟩ : ∃ y, decide (r.peer = k) = y := ⟨_, rfl⟩
  have hy' : decide (r.peer = k) = y := hy
  rw [hfc, hpa, hy'] at heq
  rw [hrc, hy]
  have HEQ := Lib.hid heq
  have HFC := Lib.hid hfc
  have HPA := Lib.hid hpa
  have hb := (Below.refl W.heap.size W).alloc (Nat.le_refl _) (.cells rc 37)
  have HP := Lib.hid (show Blk (W.alloc (.cells rc 37)) W.heap.size 37 r.cells from by rw [← hrc]; exact Blk.new W 37 r.cells)
  have HAT := Lib.hid (show At (W.alloc (.cells rc 37)) G 0 (k.map u8v) from hat.mono hb hG)
  have HB := Lib.hid hb
  clear heq hr hat hrc hfc hpa hy hy' hb
  go_enter Try.func43, Try.ntmps43
  go_upto_region 1 with fail
  generalize W.alloc (.cells rc 37) = w1 at HP HAT HB ⊢
  generalize W.heap.size = P1 at HP ⊢
  go_wp2_with (first | (refine wpList_load_obj rfl 30 (.tmp 4) rfl P1 18 rfl (r.peer.map u8v) (by simpa using route_peer HP.out.all HR.out) _ Try.underlying30 rfl (key_cellsOf _ HR.out.2.1) ?_; rw [HFC.out]) | (refine wpList_load_obj rfl 30 (.tmp 1) rfl G 0 rfl (k.map u8v) HAT.out _ Try.underlying30 rfl HU.out ?_; rw [HPA.out]) | (refine wpList_eql_agg (by rfl) 30 30 5 6 rfl fc pa y rfl rfl key_noguard (HEQ.out _) ?_))
  go_ret
  exact ⟨rfl, HB.out⟩
/-- the predicate on cells: the first eighteen of them are those of a prefix -/
noncomputable def prefP (a : AddrM) (b : Int) (o : List Value) : Bool := @decide (o.take 18 = prefC a b) (Classical.propDecidable _)
noncomputable def peerP (k : List UInt8) (o : List Value) : Bool := @decide (o.drop 18 = k.map u8v) (Classical.propDecidable _)
theorem prefP_is {a : AddrM} {b : Int} (ha : a.ok) {r : RouteM} (hr : r.ok) : prefP a b r.cells = RouteM.is a b r := by
  unfold prefP RouteM.is
  rw [Bool.eq_iff_iff, @decide_eq_true_iff _ (Classical.propDecidable _), decide_eq_true_iff, RouteM.cells, List.take_left' (prefC_length r.a hr.1 _), prefC_inj hr.1 ha]
theorem peerP_is {k : List UInt8} {r : RouteM} (hr : r.ok) : peerP k r.cells = decide (r.peer = k) := by
  unfold peerP
  rw [Bool.eq_iff_iff, @decide_eq_true_iff _ (Classical.propDecidable _), decide_eq_true_iff, RouteM.cells, List.drop_left' (prefC_length r.a hr.1 _), u8v_inj]
theorem rts_mem {l : List RouteM} (h : ∀ r ∈ l, r.ok) {o : List Value} (ho : o ∈ rtsV l) : ∃ r : RouteM, r.ok ∧ r.cells = o := by
  obtain ⟨r, hr, rfl⟩ := List.mem_map.1 ho
  exact ⟨r, h r hr, rfl⟩
theorem rts_filter {l : List RouteM} (h : ∀ r ∈ l, r.ok) (p : List Value → Bool) (q : RouteM → Bool) (hpq : ∀ r, r.ok → p r.cells = q r) : (rtsV l).filter p = rtsV (l.filter q) := by
  rw [rtsV, rtsV, List.filter_map]
  congr 1
  exact List.filter_congr fun r hr => hpq r (h r hr)
theorem rts_remM {l : List RouteM} (h : ∀ r ∈ l, r.ok) {a : AddrM} (ha : a.ok) (b : Int) : (rtsV l).filter (fun o => !prefP a b o) = rtsV (remM l a b) :=
  rts_filter h _ _ fun r hr => by rw [prefP_is ha hr]
theorem rts_remPeerM {l : List RouteM} (h : ∀ r ∈ l, r.ok) (k : List UInt8) : (rtsV l).filter (fun o => !peerP k o) = rtsV (remPeerM l k) :=
  rts_filter h _ _ fun r hr => by rw [peerP_is hr]; simp
theorem rts_one (l : List RouteM) : ∀ o ∈ rtsV l, ∀ v ∈ o, v.oneCell' = true := fun o ho v hv => by
  obtain ⟨r, _, rfl⟩ := List.mem_map.1 ho
  exact route_one r v hv
theorem rts_len (l : List RouteM) : (rtsV l).length = l.length := by rw [rtsV, List.length_map]
end Go.Proofs.Ytnblofbbbkjhpaa
namespace Go.Proofs.Ytnblofbbbkjhpaa
open Go.RowKit

theorem RdRow.ahead {W : World} {B k n : Nat} {A : Option Addr} {os : List (List Value)} (h : RdRow W B A k n os) (i c : Nat) (hi : i ≤ n) : RdRow W B (addrK A 0 c k) k i (os.take i) := by
  rcases Nat.eq_zero_or_pos i with h0 | h0
  · subst h0
    rw [List.take_zero]
    exact RdRow.nil
  · obtain ⟨b, off, rfl⟩ := h.addr (by omega)
    rw [addrK_zero_some]
    exact h.take i hi
def catV (A : Option Addr) (n c i j g1 : Nat) : List Value := [.slice (addrK A 0 c 50) i c, .slice (some ⟨g1, 0, none⟩) 1 1, .slice (addrK A j c 50) (n - j) (c - j)]
theorem cat_any (A : Option Addr) (n c i j : Nat) (l : List RouteM) (r : RouteM) (hn : n ≤ 100) (hnc : n ≤ c) (hi : i ≤ n) (hj : j ≤ n) (hok : r.ok) (g1 g2 : Nat) (t2 : TypeId) (W : World) (hr : RtRd W W.heap.size A n l) (h1 : Blk W g1 37 r.cells) (h2 : Blk W g2 t2 (catV A n c i j g1)) :
    Calls Try.prog 36 #[.slice (some ⟨g2, 0, none⟩) 3 3] W fun e w' => ∃ A' c', e = .returned (.slice A' (i + (1 + (n - j))) c') ∧ RtRd w' w'.heap.size A' (i + (1 + (n - j))) (l.take i ++ r :: l.drop j) ∧ (i + (1 + (n - j)) ≤ c' ∧ c' ≤ maxLen) ∧ Below W.heap.size W w' := by
  have hl := hr.len
  have hlen : rtLenP [((addrK A 0 c 50, i, c), rtsV (l.take i)), ((some ⟨g1, 0, none⟩, 1, 1), [r.cells]), ((addrK A j c 50, n - j, c - j), rtsV (l.drop j))] = i + (1 + (n - j)) := rfl
  have h := rtConcat_any g2 0 3 3 [((addrK A 0 c 50, i, c), rtsV (l.take i)), ((some ⟨g1, 0, none⟩, 1, 1), [r.cells]), ((addrK A j c 50, n - j, c - j), rtsV (l.drop j))] rfl (by omega) (by rw [hlen]; omega) W h2.lt h2.all (by
    intro x hx
    simp only [List.mem_cons, List.not_mem_nil, or_false] at hx
    rcases hx with rfl | rfl | rfl
    · exact ⟨by rw [← rtsV_take]; exact hr.1.ahead i c hi, rts_one _⟩
    · refine ⟨⟨rfl, fun o ho => ?_, fun _ => ⟨g1, 0, rfl, h1.lt, fun q v hq => ?_⟩⟩, fun o ho => ?_⟩
      · rw [List.mem_singleton] at ho; subst ho; exact RouteM.cells_length hok
      · rw [Nat.zero_add, h1.cell]; simpa using hq
      · rw [List.mem_singleton] at ho; subst ho; exact route_one r
    · exact ⟨by rw [← rtsV_drop]; exact hr.1.behind j c hj hnc, rts_one _⟩)
  rw [hlen] at h
  refine h.mono ?_
  rintro e w' ⟨A', c', rfl, ho, hb⟩
  obtain ⟨A9, c9, hv, hc1, hc2, -⟩ := own_sliceK ho
  injection hv with _ _ hc
  subst hc
  refine ⟨A', c', rfl, RtRd.of_own ?_ ?_ (show w'.ownsRow W.heap.size 37 50 (.slice A' (i + (1 + (n - j))) c') (i + (1 + (n - j))) (rtsV (l.take i ++ r :: l.drop j)).flatten from ?_), ⟨hc1, hc2⟩, hb⟩
  · rw [List.length_append, List.length_cons, List.length_take, List.length_drop, hl]; omega
  · intro q hq
    rcases List.mem_append.1 hq with hq | hq
    · exact hr.2 q (List.mem_of_mem_take hq)
    · rcases List.mem_cons.1 hq with rfl | hq
      · exact hok
      · exact hr.2 q (List.mem_of_mem_drop hq)
  · have e : ([((addrK A 0 c 50, i, c), rtsV (l.take i)), ((some ⟨g1, 0, none⟩, 1, 1), [r.cells]), ((addrK A j c 50, n - j, c - j), rtsV (l.drop j))] : List RtPart).flatMap (·.2) = rtsV (l.take i ++ r :: l.drop j) := by simp [rtsV]
    rw [← e]
    exact ho
theorem idxM_pref {l : List RouteM} (h : ∀ r ∈ l, r.ok) {a : AddrM} (ha : a.ok) (b : Int) : idxM (prefP a b) (rtsV l) = match findM a b l with
    | none => -1
    | some i => (i : Int) := by
  have e : (rtsV l).findIdx? (prefP a b) = findM a b l := by
    rw [rtsV, List.findIdx?_map, findM]
    have key : ∀ m : List RouteM, (∀ r ∈ m, r.ok) → m.findIdx? (prefP a b ∘ RouteM.cells) = m.findIdx? (RouteM.is a b) := by
      intro m
      induction m with
      | nil => intro _; rfl
      | cons x m ih =>
        intro hm
        rw [List.findIdx?_cons, List.findIdx?_cons, ih (fun r hr => hm r (List.mem_cons_of_mem _ hr))]
        simp only [Function.comp_apply, prefP_is ha (hm x (List.mem_cons_self ..))]
    exact key l h
  unfold idxM
  rw [e]
  all_goals (cases findM a b l <;> rfl)
end Go.Proofs.Ytnblofbbbkjhpaa
namespace Go.Proofs.Ytnblofbbbkjhpaa
open Go.RowKit

set_option maxRecDepth 100000 in
set_option maxHeartbeats 16000000 in
theorem refRem_any (A : Option Addr) (n c : Nat) (l : List RouteM) (hn : n ≤ 1000) (a : AddrM) (bits : Int) (hoa : a.ok) (hob : inI64 bits) (w : World) (ha : RtRd w w.heap.size A n l) :
    Calls Try.prog 16 #[.slice A n c, .agg (prefC a bits).toArray] w fun e w' => ∃ A' c', e = .returned (.slice A' (remM l a bits).length c') ∧ w'.ownsRow w.heap.size 37 50 (.slice A' (remM l a bits).length c') (remM l a bits).length (rtsV (remM l a bits)).flatten ∧ Below w.heap.size w w' := by
  have HA := Lib.hid ha
  have HARG := Lib.hid (And.intro hoa hob)
  have HU := Lib.hid (pref_cellsOf' a hoa bits)
  clear ha
  obtain ⟨ik, hik, hiz, his, hib⟩ := routeInfo
  have HKI := Lib.hid (And.intro hik (And.intro hiz (And.intro his hib)))
  clear hik hiz his hib
  obtain ⟨pa, hpa⟩ : ∃ z, (prefC a bits).toArray = z := ⟨_, rfl⟩
  rw [hpa]
  have hm := (Mem.nil w).alloc rfl 28 pa (prefC a bits) hpa.symm
  have HM := Lib.hid hm
  have HPA := Lib.hid hpa
  clear hpa hm
  go_enter Try.func16, Try.ntmps16
  go_upto_region 2 with fail
  have HB := Lib.hid HM.out.fix
  generalize (w.alloc (.cells pa 28)) = w1 at HM HB ⊢
  obtain ⟨B, hB⟩ : ∃ B, w1.heap.size = B := ⟨_, rfl⟩
  rw [hB] at HB
  clear hB HM
  go_wp2_with fail
  go_loopw [10, 5] (fun i vo wr => ∃ j m : Nat, j ≤ n ∧ i = .int .i64 (j : Int) ∧ m = (remM (l.take j) a bits).length ∧ wr.ownsRow B 37 50 vo m (rtsV (remM (l.take j) a bits)).flatten ∧ MemB w B [blkE w.heap.size 28 (prefC a bits)] wr) (fun i _ _ => n - (intOf i).toNat)
  case atStart => exact ⟨0, 0, by omega, rfl, rfl, World.ownsRow_nil _ _ _ _, HB.out⟩
  case round =>
    clear HB
    obtain ⟨j, m, hj, rfl, hm, hown, hmb⟩ := hrel
    have HO := Lib.hid (And.intro hown hmb)
    have HMM := Lib.hid hm
    clear hown hmb hm
    by_cases hjn : j < n
    · have d1 : decide ((j : Int) < (n : Int)) = true := by simp; omega
      obtain ⟨b, off, rfl⟩ := HA.out.1.addr (by omega)
      obtain ⟨r, hr⟩ : ∃ r, l[j]? = some r := ⟨l[j]'(by rw [HA.out.len]; exact hjn), List.getElem?_eq_getElem _⟩
      have HOK := Lib.hid (HA.out.ok hr)
      have hat := HA.out.at j r hr
      have HLA := Lib.hid (hat.2.mono HO.out.2.2.1 hat.1)
      have HLE := Lib.hid (show m ≤ n from by rw [HMM.out]; exact Nat.le_trans (remM_le _ _ _) (by rw [List.length_take]; omega))
      have HSN := Lib.hid (take_snoc hr)
      clear hat hr
      obtain ⟨rc, hrc⟩ : ∃ z, r.cells.toArray = z := ⟨_, rfl⟩
      obtain ⟨fc, hfc⟩ : ∃ z, (prefC r.a r.bits).toArray = z := ⟨_, rfl⟩
      have heq := fun w' : World => pref_eqd r.a a r.bits bits HOK.out.1 hoa HOK.out.2.2 hob w'
      rw [hfc, HPA.out] at heq
      have HEQ := Lib.hid heq
      have HRC := Lib.hid hrc
      have HFC := Lib.hid hfc
      clear hrc hfc heq
      have HZ := Lib.hid (Blk.new wr 37 routeZ)
      go_upto_region 5 with (first | (refine wpList_load_obj rfl 37 (.tmp 12) rfl b _ rfl r.cells HLA.out _ Try.underlying37 rfl (route_cellsOf r HOK.out) ?_; rw [HRC.out]) | (refine wpList_store_obj rfl 37 (.tmp 7) (.tmp 13) rfl wr.heap.size 0 r.cells rfl (by show Value.agg rc = _; rw [HRC.out]) 37 routeZ HZ.out (route_cellsOf r HOK.out) (by rw [RouteM.cells_length HOK.out, routeZ_length]; omega) (route_one r) ?_; intro w4 hb4 hg4))
      rw [setL_all routeZ r.cells (by rw [RouteM.cells_length HOK.out, routeZ_length])] at hb4
      have HBF := Lib.hid (below_fresh hg4)
      have HP := Lib.hid hb4
      have HO4 := Lib.hid (show w4.ownsRow B 37 50 u5 m (rtsV (remM (l.take j) a bits)).flatten ∧ MemB w B [blkE w.heap.size 28 (prefC a bits)] w4 from ⟨own_below HO.out.1 HBF.out, HO.out.2.below (HBF.out.mono HO.out.2.2.2)⟩)
      clear hb4 hg4 HO HBF HZ d1
      generalize wr.heap.size = P1 at HP ⊢
      by_cases hq : r.a = a ∧ r.bits = bits
      · have HRE := Lib.hid (show remM (l.take (j + 1)) a bits = remM (l.take j) a bits by rw [HSN.out, remM_snoc, if_pos (by rw [RouteM.is, decide_eq_true_iff]; exact hq), List.append_nil])
        rw [decide_eq_true hq] at HEQ
        clear hq
        go_wp2_with (first | (refine wpList_load_obj rfl 28 (.tmp 14) rfl P1 0 rfl (prefC r.a r.bits) (route_pref HP.out.all) _ Try.underlying28 rfl (pref_cellsOf' r.a HOK.out.1 r.bits) ?_; rw [HFC.out]) | (refine wpList_load_obj rfl 28 (.tmp 3) rfl w.heap.size 0 rfl (prefC a bits) ((HO4.out.2.mem.blk 0 rfl).all) _ Try.underlying28 rfl HU.out ?_; rw [HPA.out]) | (refine wpList_neq_agg (by rfl) 28 28 15 16 rfl fc pa true rfl rfl prefix_noguard (HEQ.out _) ?_))
        go_roundw
        case rel => exact ⟨j + 1, m, by omega, by go_num, by rw [HRE.out]; exact HMM.out, by rw [HRE.out]; exact HO4.out.1, HO4.out.2⟩
        case measure => simp [intOf]; omega
      · have HRE := Lib.hid (show remM (l.take (j + 1)) a bits = remM (l.take j) a bits ++ [r] by rw [HSN.out, remM_snoc, if_neg (by rw [RouteM.is, decide_eq_true_iff]; exact hq)])
        rw [decide_eq_false hq] at HEQ
        clear hq
        go_wp2_with (first | (refine wpList_load_obj rfl 28 (.tmp 14) rfl P1 0 rfl (prefC r.a r.bits) (route_pref HP.out.all) _ Try.underlying28 rfl (pref_cellsOf' r.a HOK.out.1 r.bits) ?_; rw [HFC.out]) | (refine wpList_load_obj rfl 28 (.tmp 3) rfl w.heap.size 0 rfl (prefC a bits) ((HO4.out.2.mem.blk 0 rfl).all) _ Try.underlying28 rfl HU.out ?_; rw [HPA.out]) | (refine wpList_neq_agg (by rfl) 28 28 15 16 rfl fc pa false rfl rfl prefix_noguard (HEQ.out _) ?_) | (refine wpList_load_obj rfl 37 (.tmp 7) rfl P1 0 rfl (r.cells) (HP.out.all) _ Try.underlying37 rfl (route_cellsOf r HOK.out) ?_; rw [HRC.out]) | (refine wpList_buildOne rfl 23 37 (.tmp 19) rfl rc rfl 50 Try.underlying23 ik HKI.out.1 HKI.out.2.2.1 _ HKI.out.2.1 (by omega) (by omega) (by rw [← HRC.out, List.size_toArray, RouteM.cells_length HOK.out]) ?_) | (refine wpList_append_own_at _ rfl (.tmp 18) (.tmp 20) 23 rfl B 37 ik _ 50 64 Try.underlying23 HKI.out.1 HKI.out.2.1 HKI.out.2.2.1 HKI.out.2.2.2 (by rfl) (by omega) u5 m _ rfl (HO4.out.1.alloc (.cells rc 37)) ⟨w4.heap.size, 0, none⟩ 1 1 (r.cells) rfl (by rw [RouteM.cells_length HOK.out]) (fun q v hv => by rw [Go.WideShapes.add_plain, Nat.zero_add, ← HRC.out, (Blk.new w4 37 (r.cells)).cell]; exact hv) (route_one r) (by unfold maxLen; have := HLE.out; omega) (by have := HLE.out; omega) (HO4.out.2.below ((Below.refl B w4).alloc HO4.out.2.2.2 (.cells rc 37))).2.2 ?_; intro v6 w6 ho6 hg6 hk6a hk6))
        go_roundw
        case rel => exact ⟨j + 1, m + 1, by omega, by go_num, by rw [HRE.out, List.length_append, ← HMM.out]; rfl, by rw [HRE.out, rtsV_snoc]; exact ho6, (HO4.out.2.below ((Below.refl B w4).alloc HO4.out.2.2.2 (.cells rc 37))).below ((Below.refl B _).grown hg6 (HO4.out.2.below ((Below.refl B w4).alloc HO4.out.2.2.2 (.cells rc 37))).2.2 (own_from HO4.out.1))⟩
        case measure => simp [intOf]; omega
    · obtain rfl : j = n := by omega
      obtain ⟨A9, c9, rfl⟩ : ∃ A c, u5 = .slice A m c := by
        rcases HO.out.1.2 with ⟨h, h0⟩ | ⟨g, cap, cur, h, _⟩
        · exact ⟨none, 0, by rw [h, h0]⟩
        · exact ⟨_, _, h⟩
      have d1 : decide ((j : Int) < (j : Int)) = false := by simp
      have htk : l.take j = l := List.take_of_length_le (by rw [HA.out.len]; exact Nat.le_refl _)
      rw [htk] at HO HMM
      have HF := Lib.hid (And.intro (own_base HO.out.1 HO.out.2.1.base) HO.out.2.2.1)
      have HX := Lib.hid HMM.out
      clear HO HMM htk
      go_wp2
      go_ret
      rw [← HX.out]
      exact ⟨_, _, rfl, HF.out.1, HF.out.2⟩
end Go.Proofs.Ytnblofbbbkjhpaa
namespace Go.Proofs.Ytnblofbbbkjhpaa
open Go.RowKit

set_option maxRecDepth 100000 in
set_option maxHeartbeats 16000000 in
theorem refRemP_any (A : Option Addr) (n c : Nat) (l : List RouteM) (hn : n ≤ 1000) (k : List UInt8) (hk : k.length = 32) (w : World) (ha : RtRd w w.heap.size A n l) :
    Calls Try.prog 18 #[.slice A n c, .agg (k.map u8v).toArray] w fun e w' => ∃ A' c', e = .returned (.slice A' (remPeerM l k).length c') ∧ w'.ownsRow w.heap.size 37 50 (.slice A' (remPeerM l k).length c') (remPeerM l k).length (rtsV (remPeerM l k)).flatten ∧ Below w.heap.size w w' := by
  have HA := Lib.hid ha
  have HARG := Lib.hid (hk)
  have HU := Lib.hid (key_cellsOf k hk)
  clear ha
  obtain ⟨ik, hik, hiz, his, hib⟩ := routeInfo
  have HKI := Lib.hid (And.intro hik (And.intro hiz (And.intro his hib)))
  clear hik hiz his hib
  obtain ⟨pa, hpa⟩ : ∃ z, (k.map u8v).toArray = z := ⟨_, rfl⟩
  rw [hpa]
  have hm := (Mem.nil w).alloc rfl 30 pa (k.map u8v) hpa.symm
  have HM := Lib.hid hm
  have HPA := Lib.hid hpa
  clear hpa hm
  go_enter Try.func18, Try.ntmps18
  go_upto_region 2 with fail
  have HB := Lib.hid HM.out.fix
  generalize (w.alloc (.cells pa 30)) = w1 at HM HB ⊢
  obtain ⟨B, hB⟩ : ∃ B, w1.heap.size = B := ⟨_, rfl⟩
  rw [hB] at HB
  clear hB HM
  go_wp2_with fail
  go_loopw [10, 5] (fun i vo wr => ∃ j m : Nat, j ≤ n ∧ i = .int .i64 (j : Int) ∧ m = (remPeerM (l.take j) k).length ∧ wr.ownsRow B 37 50 vo m (rtsV (remPeerM (l.take j) k)).flatten ∧ MemB w B [blkE w.heap.size 30 (k.map u8v)] wr) (fun i _ _ => n - (intOf i).toNat)
  case atStart => exact ⟨0, 0, by omega, rfl, rfl, World.ownsRow_nil _ _ _ _, HB.out⟩
  case round =>
    clear HB
    obtain ⟨j, m, hj, rfl, hm, hown, hmb⟩ := hrel
    have HO := Lib.hid (And.intro hown hmb)
    have HMM := Lib.hid hm
    clear hown hmb hm
    by_cases hjn : j < n
    · have d1 : decide ((j : Int) < (n : Int)) = true := by simp; omega
      obtain ⟨b, off, rfl⟩ := HA.out.1.addr (by omega)
      obtain ⟨r, hr⟩ : ∃ r, l[j]? = some r := ⟨l[j]'(by rw [HA.out.len]; exact hjn), List.getElem?_eq_getElem _⟩
      have HOK := Lib.hid (HA.out.ok hr)
      have hat := HA.out.at j r hr
      have HLA := Lib.hid (hat.2.mono HO.out.2.2.1 hat.1)
      have HLE := Lib.hid (show m ≤ n from by rw [HMM.out]; exact Nat.le_trans (remPeerM_le _ _) (by rw [List.length_take]; omega))
      have HSN := Lib.hid (take_snoc hr)
      clear hat hr
      obtain ⟨rc, hrc⟩ : ∃ z, r.cells.toArray = z := ⟨_, rfl⟩
      obtain ⟨fc, hfc⟩ : ∃ z, (r.peer.map u8v).toArray = z := ⟨_, rfl⟩
      have heq := fun w' : World => key_eq r.peer k HOK.out.2.1 hk w'
      rw [hfc, HPA.out] at heq
      have HEQ := Lib.hid heq
      have HRC := Lib.hid hrc
      have HFC := Lib.hid hfc
      clear hrc hfc heq
      have HZ := Lib.hid (Blk.new wr 37 routeZ)
      go_upto_region 5 with (first | (refine wpList_load_obj rfl 37 (.tmp 12) rfl b _ rfl r.cells HLA.out _ Try.underlying37 rfl (route_cellsOf r HOK.out) ?_; rw [HRC.out]) | (refine wpList_store_obj rfl 37 (.tmp 7) (.tmp 13) rfl wr.heap.size 0 r.cells rfl (by show Value.agg rc = _; rw [HRC.out]) 37 routeZ HZ.out (route_cellsOf r HOK.out) (by rw [RouteM.cells_length HOK.out, routeZ_length]; omega) (route_one r) ?_; intro w4 hb4 hg4))
      rw [setL_all routeZ r.cells (by rw [RouteM.cells_length HOK.out, routeZ_length])] at hb4
      have HBF := Lib.hid (below_fresh hg4)
      have HP := Lib.hid hb4
      have HO4 := Lib.hid (show w4.ownsRow B 37 50 u5 m (rtsV (remPeerM (l.take j) k)).flatten ∧ MemB w B [blkE w.heap.size 30 (k.map u8v)] w4 from ⟨own_below HO.out.1 HBF.out, HO.out.2.below (HBF.out.mono HO.out.2.2.2)⟩)
      clear hb4 hg4 HO HBF HZ d1
      generalize wr.heap.size = P1 at HP ⊢
      by_cases hq : r.peer = k
      · have HRE := Lib.hid (show remPeerM (l.take (j + 1)) k = remPeerM (l.take j) k by rw [HSN.out, remPeerM_snoc, if_pos hq, List.append_nil])
        rw [decide_eq_true hq] at HEQ
        clear hq
        go_wp2_with (first | (refine wpList_load_obj rfl 30 (.tmp 14) rfl P1 18 rfl (r.peer.map u8v) (by simpa using route_peer HP.out.all HOK.out) _ Try.underlying30 rfl (key_cellsOf _ HOK.out.2.1) ?_; rw [HFC.out]) | (refine wpList_load_obj rfl 30 (.tmp 3) rfl w.heap.size 0 rfl (k.map u8v) ((HO4.out.2.mem.blk 0 rfl).all) _ Try.underlying30 rfl HU.out ?_; rw [HPA.out]) | (refine wpList_neq_agg (by rfl) 30 30 15 16 rfl fc pa true rfl rfl key_noguard (HEQ.out _) ?_))
        go_roundw
        case rel => exact ⟨j + 1, m, by omega, by go_num, by rw [HRE.out]; exact HMM.out, by rw [HRE.out]; exact HO4.out.1, HO4.out.2⟩
        case measure => simp [intOf]; omega
      · have HRE := Lib.hid (show remPeerM (l.take (j + 1)) k = remPeerM (l.take j) k ++ [r] by rw [HSN.out, remPeerM_snoc, if_neg hq])
        rw [decide_eq_false hq] at HEQ
        clear hq
        go_wp2_with (first | (refine wpList_load_obj rfl 30 (.tmp 14) rfl P1 18 rfl (r.peer.map u8v) (by simpa using route_peer HP.out.all HOK.out) _ Try.underlying30 rfl (key_cellsOf _ HOK.out.2.1) ?_; rw [HFC.out]) | (refine wpList_load_obj rfl 30 (.tmp 3) rfl w.heap.size 0 rfl (k.map u8v) ((HO4.out.2.mem.blk 0 rfl).all) _ Try.underlying30 rfl HU.out ?_; rw [HPA.out]) | (refine wpList_neq_agg (by rfl) 30 30 15 16 rfl fc pa false rfl rfl key_noguard (HEQ.out _) ?_) | (refine wpList_load_obj rfl 37 (.tmp 7) rfl P1 0 rfl (r.cells) (HP.out.all) _ Try.underlying37 rfl (route_cellsOf r HOK.out) ?_; rw [HRC.out]) | (refine wpList_buildOne rfl 23 37 (.tmp 19) rfl rc rfl 50 Try.underlying23 ik HKI.out.1 HKI.out.2.2.1 _ HKI.out.2.1 (by omega) (by omega) (by rw [← HRC.out, List.size_toArray, RouteM.cells_length HOK.out]) ?_) | (refine wpList_append_own_at _ rfl (.tmp 18) (.tmp 20) 23 rfl B 37 ik _ 50 64 Try.underlying23 HKI.out.1 HKI.out.2.1 HKI.out.2.2.1 HKI.out.2.2.2 (by rfl) (by omega) u5 m _ rfl (HO4.out.1.alloc (.cells rc 37)) ⟨w4.heap.size, 0, none⟩ 1 1 (r.cells) rfl (by rw [RouteM.cells_length HOK.out]) (fun q v hv => by rw [Go.WideShapes.add_plain, Nat.zero_add, ← HRC.out, (Blk.new w4 37 (r.cells)).cell]; exact hv) (route_one r) (by unfold maxLen; have := HLE.out; omega) (by have := HLE.out; omega) (HO4.out.2.below ((Below.refl B w4).alloc HO4.out.2.2.2 (.cells rc 37))).2.2 ?_; intro v6 w6 ho6 hg6 hk6a hk6))
        go_roundw
        case rel => exact ⟨j + 1, m + 1, by omega, by go_num, by rw [HRE.out, List.length_append, ← HMM.out]; rfl, by rw [HRE.out, rtsV_snoc]; exact ho6, (HO4.out.2.below ((Below.refl B w4).alloc HO4.out.2.2.2 (.cells rc 37))).below ((Below.refl B _).grown hg6 (HO4.out.2.below ((Below.refl B w4).alloc HO4.out.2.2.2 (.cells rc 37))).2.2 (own_from HO4.out.1))⟩
        case measure => simp [intOf]; omega
    · obtain rfl : j = n := by omega
      obtain ⟨A9, c9, rfl⟩ : ∃ A c, u5 = .slice A m c := by
        rcases HO.out.1.2 with ⟨h, h0⟩ | ⟨g, cap, cur, h, _⟩
        · exact ⟨none, 0, by rw [h, h0]⟩
        · exact ⟨_, _, h⟩
      have d1 : decide ((j : Int) < (j : Int)) = false := by simp
      have htk : l.take j = l := List.take_of_length_le (by rw [HA.out.len]; exact Nat.le_refl _)
      rw [htk] at HO HMM
      have HF := Lib.hid (And.intro (own_base HO.out.1 HO.out.2.1.base) HO.out.2.2.1)
      have HX := Lib.hid HMM.out
      clear HO HMM htk
      go_wp2
      go_ret
      rw [← HX.out]
      exact ⟨_, _, rfl, HF.out.1, HF.out.2⟩
end Go.Proofs.Ytnblofbbbkjhpaa
namespace Go.Proofs.Ytnblofbbbkjhpaa
open Go.RowKit

set_option maxRecDepth 100000 in
set_option maxHeartbeats 16000000 in
theorem refOf_any (A : Option Addr) (n c : Nat) (l : List RouteM) (hn : n ≤ 1000) (k : List UInt8) (hk : k.length = 32) (w : World) (ha : RtRd w w.heap.size A n l) :
    Calls Try.prog 21 #[.slice A n c, .agg (k.map u8v).toArray] w fun e w' => ∃ A' c', e = .returned (.slice A' (ofM l k).length c') ∧ w'.ownsRow w.heap.size 28 18 (.slice A' (ofM l k).length c') (ofM l k).length (pfsV (ofM l k)).flatten ∧ Below w.heap.size w w' := by
  have HA := Lib.hid ha
  have HARG := Lib.hid (hk)
  have HU := Lib.hid (key_cellsOf k hk)
  clear ha
  obtain ⟨ik, hik, hiz, his, hib⟩ := prefInfo
  have HKI := Lib.hid (And.intro hik (And.intro hiz (And.intro his hib)))
  clear hik hiz his hib
  obtain ⟨pa, hpa⟩ : ∃ z, (k.map u8v).toArray = z := ⟨_, rfl⟩
  rw [hpa]
  have hm := (Mem.nil w).alloc rfl 30 pa (k.map u8v) hpa.symm
  have HM := Lib.hid hm
  have HPA := Lib.hid hpa
  clear hpa hm
  go_enter Try.func21, Try.ntmps21
  go_upto_region 2 with fail
  have HB := Lib.hid HM.out.fix
  generalize (w.alloc (.cells pa 30)) = w1 at HM HB ⊢
  obtain ⟨B, hB⟩ : ∃ B, w1.heap.size = B := ⟨_, rfl⟩
  rw [hB] at HB
  clear hB HM
  go_wp2_with fail
  go_loopw [10, 5] (fun i vo wr => ∃ j m : Nat, j ≤ n ∧ i = .int .i64 (j : Int) ∧ m = (ofM (l.take j) k).length ∧ wr.ownsRow B 28 18 vo m (pfsV (ofM (l.take j) k)).flatten ∧ MemB w B [blkE w.heap.size 30 (k.map u8v)] wr) (fun i _ _ => n - (intOf i).toNat)
  case atStart => exact ⟨0, 0, by omega, rfl, rfl, World.ownsRow_nil _ _ _ _, HB.out⟩
  case round =>
    clear HB
    obtain ⟨j, m, hj, rfl, hm, hown, hmb⟩ := hrel
    have HO := Lib.hid (And.intro hown hmb)
    have HMM := Lib.hid hm
    clear hown hmb hm
    by_cases hjn : j < n
    · have d1 : decide ((j : Int) < (n : Int)) = true := by simp; omega
      obtain ⟨b, off, rfl⟩ := HA.out.1.addr (by omega)
      obtain ⟨r, hr⟩ : ∃ r, l[j]? = some r := ⟨l[j]'(by rw [HA.out.len]; exact hjn), List.getElem?_eq_getElem _⟩
      have HOK := Lib.hid (HA.out.ok hr)
      have hat := HA.out.at j r hr
      have HLA := Lib.hid (hat.2.mono HO.out.2.2.1 hat.1)
      have HLE := Lib.hid (show m ≤ n from by rw [HMM.out]; exact Nat.le_trans (ofM_le _ _) (by rw [List.length_take]; omega))
      have HSN := Lib.hid (take_snoc hr)
      clear hat hr
      obtain ⟨rc, hrc⟩ : ∃ z, r.cells.toArray = z := ⟨_, rfl⟩
      obtain ⟨rp, hrp⟩ : ∃ z, (prefC r.a r.bits).toArray = z := ⟨_, rfl⟩
      have HPC := Lib.hid hrp
      clear hrp
      obtain ⟨fc, hfc⟩ : ∃ z, (r.peer.map u8v).toArray = z := ⟨_, rfl⟩
      have heq := fun w' : World => key_eq r.peer k HOK.out.2.1 hk w'
      rw [hfc, HPA.out] at heq
      have HEQ := Lib.hid heq
      have HRC := Lib.hid hrc
      have HFC := Lib.hid hfc
      clear hrc hfc heq
      have HZ := Lib.hid (Blk.new wr 37 routeZ)
      go_upto_region 5 with (first | (refine wpList_load_obj rfl 37 (.tmp 12) rfl b _ rfl r.cells HLA.out _ Try.underlying37 rfl (route_cellsOf r HOK.out) ?_; rw [HRC.out]) | (refine wpList_store_obj rfl 37 (.tmp 7) (.tmp 13) rfl wr.heap.size 0 r.cells rfl (by show Value.agg rc = _; rw [HRC.out]) 37 routeZ HZ.out (route_cellsOf r HOK.out) (by rw [RouteM.cells_length HOK.out, routeZ_length]; omega) (route_one r) ?_; intro w4 hb4 hg4))
      rw [setL_all routeZ r.cells (by rw [RouteM.cells_length HOK.out, routeZ_length])] at hb4
      have HBF := Lib.hid (below_fresh hg4)
      have HP := Lib.hid hb4
      have HO4 := Lib.hid (show w4.ownsRow B 28 18 u5 m (pfsV (ofM (l.take j) k)).flatten ∧ MemB w B [blkE w.heap.size 30 (k.map u8v)] w4 from ⟨own_below HO.out.1 HBF.out, HO.out.2.below (HBF.out.mono HO.out.2.2.2)⟩)
      clear hb4 hg4 HO HBF HZ d1
      generalize wr.heap.size = P1 at HP ⊢
      by_cases hq : r.peer = k
      · have HRE := Lib.hid (show ofM (l.take (j + 1)) k = ofM (l.take j) k ++ [(r.a, r.bits)] by rw [HSN.out, ofM_snoc, if_pos hq])
        rw [decide_eq_true hq] at HEQ
        clear hq
        go_wp2_with (first | (refine wpList_load_obj rfl 30 (.tmp 14) rfl P1 18 rfl (r.peer.map u8v) (by simpa using route_peer HP.out.all HOK.out) _ Try.underlying30 rfl (key_cellsOf _ HOK.out.2.1) ?_; rw [HFC.out]) | (refine wpList_load_obj rfl 30 (.tmp 3) rfl w.heap.size 0 rfl (k.map u8v) ((HO4.out.2.mem.blk 0 rfl).all) _ Try.underlying30 rfl HU.out ?_; rw [HPA.out]) | (refine wpList_eql_agg (by rfl) 30 30 15 16 rfl fc pa true rfl rfl key_noguard (HEQ.out _) ?_) | (refine wpList_load_obj rfl 28 (.tmp 19) rfl P1 0 rfl (prefC r.a r.bits) (route_pref HP.out.all) _ Try.underlying28 rfl (pref_cellsOf' r.a HOK.out.1 r.bits) ?_; rw [HPC.out]) | (refine wpList_buildOne rfl 38 28 (.tmp 20) rfl rp rfl 18 Try.underlying38 ik HKI.out.1 HKI.out.2.2.1 _ HKI.out.2.1 (by omega) (by omega) (by rw [← HPC.out, List.size_toArray, prefC_length r.a HOK.out.1]) ?_) | (refine wpList_append_own_at _ rfl (.tmp 18) (.tmp 21) 38 rfl B 28 ik _ 18 32 Try.underlying38 HKI.out.1 HKI.out.2.1 HKI.out.2.2.1 HKI.out.2.2.2 (by rfl) (by omega) u5 m _ rfl (HO4.out.1.alloc (.cells rp 28)) ⟨w4.heap.size, 0, none⟩ 1 1 (prefC r.a r.bits) rfl (by rw [prefC_length r.a HOK.out.1]) (fun q v hv => by rw [Go.WideShapes.add_plain, Nat.zero_add, ← HPC.out, (Blk.new w4 28 (prefC r.a r.bits)).cell]; exact hv) (pref_oneR _ _) (by unfold maxLen; have := HLE.out; omega) (by have := HLE.out; omega) (HO4.out.2.below ((Below.refl B w4).alloc HO4.out.2.2.2 (.cells rp 28))).2.2 ?_; intro v6 w6 ho6 hg6 hk6a hk6))
        go_roundw
        case rel => exact ⟨j + 1, m + 1, by omega, by go_num, by rw [HRE.out, List.length_append, ← HMM.out]; rfl, by rw [HRE.out, pfsV_snoc]; exact ho6, (HO4.out.2.below ((Below.refl B w4).alloc HO4.out.2.2.2 (.cells rp 28))).below ((Below.refl B _).grown hg6 (HO4.out.2.below ((Below.refl B w4).alloc HO4.out.2.2.2 (.cells rp 28))).2.2 (own_from HO4.out.1))⟩
        case measure => simp [intOf]; omega
      · have HRE := Lib.hid (show ofM (l.take (j + 1)) k = ofM (l.take j) k by rw [HSN.out, ofM_snoc, if_neg hq, List.append_nil])
        rw [decide_eq_false hq] at HEQ
        clear hq
        go_wp2_with (first | (refine wpList_load_obj rfl 30 (.tmp 14) rfl P1 18 rfl (r.peer.map u8v) (by simpa using route_peer HP.out.all HOK.out) _ Try.underlying30 rfl (key_cellsOf _ HOK.out.2.1) ?_; rw [HFC.out]) | (refine wpList_load_obj rfl 30 (.tmp 3) rfl w.heap.size 0 rfl (k.map u8v) ((HO4.out.2.mem.blk 0 rfl).all) _ Try.underlying30 rfl HU.out ?_; rw [HPA.out]) | (refine wpList_eql_agg (by rfl) 30 30 15 16 rfl fc pa false rfl rfl key_noguard (HEQ.out _) ?_))
        go_roundw
        case rel => exact ⟨j + 1, m, by omega, by go_num, by rw [HRE.out]; exact HMM.out, by rw [HRE.out]; exact HO4.out.1, HO4.out.2⟩
        case measure => simp [intOf]; omega
    · obtain rfl : j = n := by omega
      obtain ⟨A9, c9, rfl⟩ : ∃ A c, u5 = .slice A m c := by
        rcases HO.out.1.2 with ⟨h, h0⟩ | ⟨g, cap, cur, h, _⟩
        · exact ⟨none, 0, by rw [h, h0]⟩
        · exact ⟨_, _, h⟩
      have d1 : decide ((j : Int) < (j : Int)) = false := by simp
      have htk : l.take j = l := List.take_of_length_le (by rw [HA.out.len]; exact Nat.le_refl _)
      rw [htk] at HO HMM
      have HF := Lib.hid (And.intro (own_base HO.out.1 HO.out.2.1.base) HO.out.2.2.1)
      have HX := Lib.hid HMM.out
      clear HO HMM htk
      go_wp2
      go_ret
      rw [← HX.out]
      exact ⟨_, _, rfl, HF.out.1, HF.out.2⟩
end Go.Proofs.Ytnblofbbbkjhpaa
