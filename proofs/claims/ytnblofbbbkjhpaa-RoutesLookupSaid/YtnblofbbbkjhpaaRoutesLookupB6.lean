/-
  The order of routes: what inserting and removing keep. No function of the program is named here. The bits of an exclusive or of two bytes. Prefixes that are addresses with bits cleared: valid, and what they contain. What is made of choices is valid and in order; routes that are inserted one after the other. No function of the program is named here. What is asked of the functions of routes, with the results under names of their own. Words for lists of objects of one size that a slice holds: the first one for which a predicate holds, a place that is written, a predicate that is handed on. No function of the program is named here. The elements of type burrow/api.Route: size, zero value, pieces of their slices. The contract of slices.Grow of the nil slice of structs. The contract of slices.Concat of slices of structs. The predicates that the program's routes hand on. A route between two pieces of a list of routes: what Concat gives. The contract of the reference's RemoveRoute. The contract of the reference's RemovePeer. The contract of the reference's RoutesOf. The contract of the reference's ValidRoutes. The contract of the reference's Lookup. The reference's functions of routes do what is asked. The mathematics of RoutesLongest: the longest prefix that contains an address, and what Lookup gives. No function of the program is named here. append of a slice, and of a made one (zeros), onto a row of bytes of the call's own. The walk of RoutesLongest over what is asked of the program. No statement is proved here.
-/
import Derived.Lib.AppendZerosOnto
import Derived.RegionTactic
import Derived.Deep.DeepCutAuto
import Derived.Test.YtnblofbbbkjhpaaRoutesLookupB5
namespace Go.Proofs.Ytnblofbbbkjhpaa
open Go.RowKit

theorem bl_irrefl : ∀ a : List UInt8, Op.bytesLess a a = false
  | [] => rfl
  | x :: a => by
    unfold Op.bytesLess
    rw [bl_irrefl a]
    simp
theorem bl_trans : ∀ a b c : List UInt8, Op.bytesLess a b = true → Op.bytesLess b c = true → Op.bytesLess a c = true
  | _, [], _, h, _ => by cases ‹List UInt8› <;> simp [Op.bytesLess] at h
  | _, _ :: _, [], _, h => by simp [Op.bytesLess] at h
  | [], _ :: _, _ :: _, _, _ => rfl
  | x :: a, y :: b, z :: c, h, k => by
    unfold Op.bytesLess at h k ⊢
    simp only [Bool.or_eq_true, Bool.and_eq_true, decide_eq_true_eq, beq_iff_eq] at h k ⊢
    have key := bl_trans a b c
    rcases h with h | ⟨rfl, h⟩
    · rcases k with k | ⟨rfl, k⟩
      · exact .inl (UInt8.lt_trans h k)
      · exact .inl h
    · rcases k with k | ⟨rfl, k⟩
      · exact .inl k
      · exact .inr ⟨rfl, key h k⟩
theorem bl_total : ∀ a b : List UInt8, a.length = b.length → a ≠ b → Op.bytesLess a b = true ∨ Op.bytesLess b a = true
  | [], [], _, h => absurd rfl h
  | [], _ :: _, h, _ => by simp at h
  | _ :: _, [], h, _ => by simp at h
  | x :: a, y :: b, hl, h => by
    unfold Op.bytesLess
    simp only [Bool.or_eq_true, Bool.and_eq_true, decide_eq_true_eq, beq_iff_eq]
    by_cases e : x = y
    · subst e
      rcases bl_total a b (by simpa using hl) (fun e => h (by rw [e])) with k | k
      · exact .inl (.inr ⟨rfl, k⟩)
      · exact .inr (.inr ⟨rfl, k⟩)
    · have hn : x.toNat ≠ y.toNat := fun k => e (UInt8.toNat.inj k)
      rcases Nat.lt_or_ge x.toNat y.toNat with k | k
      · exact .inl (.inl (UInt8.lt_iff_toNat_lt.2 k))
      · exact .inr (.inl (UInt8.lt_iff_toNat_lt.2 (by omega)))
theorem less_irrefl (a : AddrM) : lessM a a = false := by rw [lessM, if_pos rfl, bl_irrefl]
theorem less_trans {a b c : AddrM} (h : lessM a b = true) (k : lessM b c = true) : lessM a c = true := by
  unfold lessM at *
  cases hs : a.six <;> cases hb : b.six <;> cases hc : c.six <;> simp_all
  · exact bl_trans _ _ _ h k
  · exact bl_trans _ _ _ h k
theorem less_total {a b : AddrM} (ha : a.ok) (hb : b.ok) (h : a ≠ b) : lessM a b = true ∨ lessM b a = true := by
  unfold lessM
  cases hs : a.six <;> cases ht : b.six <;> simp
  · exact bl_total _ _ (by rw [ha, hb]) (fun e => h (by cases a; cases b; simp_all))
  · exact bl_total _ _ (by rw [ha, hb]) (fun e => h (by cases a; cases b; simp_all))
theorem bef_trans {a b c : AddrM} {i j k : Int} (h : befM a i b j = true) (h2 : befM b j c k = true) : befM a i c k = true := by
  unfold befM at *
  by_cases e1 : a = b
  · subst e1
    rw [if_pos rfl] at h
    by_cases e2 : a = c
    · subst e2
      rw [if_pos rfl] at h2 ⊢
      simp only [decide_eq_true_eq] at *
      omega
    · rw [if_neg e2] at h2 ⊢
      exact h2
  · rw [if_neg e1] at h
    by_cases e2 : b = c
    · subst e2
      rw [if_neg e1]
      exact h
    · rw [if_neg e2] at h2
      have ht := less_trans h h2
      by_cases e3 : a = c
      · subst e3
        rw [less_irrefl] at ht
        cases ht
      · rw [if_neg e3]
        exact ht
theorem bef_total {a b : AddrM} {i j : Int} (ha : a.ok) (hb : b.ok) (h : ¬(a = b ∧ i = j)) : befM a i b j = true ∨ befM b j a i = true := by
  unfold befM
  by_cases e : a = b
  · subst e
    rw [if_pos rfl, if_pos rfl]
    simp only [decide_eq_true_eq]
    have : i ≠ j := fun k => h ⟨rfl, k⟩
    omega
  · rw [if_neg e, if_neg (fun k => e k.symm)]
    exact less_total ha hb e
def befR (r s : RouteM) : Prop := befM r.a r.bits s.a s.bits = true
theorem befR_trans {r s t : RouteM} (h : befR r s) (k : befR s t) : befR r t := bef_trans h k
/-- routes with valid prefixes in ascending order -/
def SortedM (l : List RouteM) : Prop := (∀ r ∈ l, validM r.a r.bits = true) ∧ l.Pairwise befR
/-- no route has this prefix -/
def FreshM (a : AddrM) (b : Int) (l : List RouteM) : Prop := ∀ r ∈ l, RouteM.is a b r = false
theorem fresh_find {a : AddrM} {b : Int} {l : List RouteM} (h : FreshM a b l) : findM a b l = none := List.findIdx?_eq_none_iff.2 h
theorem ins_fresh {a : AddrM} {b : Int} {l : List RouteM} (k : List UInt8) (hv : validM a b = true) (h : FreshM a b l) (hl : l.length < 16) : insM l a b k = (l.take (aheadM a b l) ++ ⟨a, b, k⟩ :: l.drop (aheadM a b l), 0) := by
  unfold insM
  rw [if_neg (by rw [hv]; simp), fresh_find h]
  exact if_neg (by omega)
theorem ins_perm {a : AddrM} {b : Int} {l : List RouteM} (k : List UInt8) (hv : validM a b = true) (h : FreshM a b l) (hl : l.length < 16) : List.Perm (insM l a b k).1 (⟨a, b, k⟩ :: l) := by
  rw [ins_fresh k hv h hl]
  have := List.perm_middle (a := (⟨a, b, k⟩ : RouteM)) (l₁ := l.take (aheadM a b l)) (l₂ := l.drop (aheadM a b l))
  rwa [List.take_append_drop] at this
theorem ahead_take {a : AddrM} {b : Int} {l : List RouteM} : ∀ r ∈ l.take (aheadM a b l), befM a b r.a r.bits = false := by
  intro r hr
  obtain ⟨i, hi, rfl⟩ := List.getElem_of_mem hr
  rw [List.length_take] at hi
  rw [List.getElem_take]
  cases hb : befM a b l[i].a l[i].bits with
  | false => rfl
  | true =>
    have := (aheadM_step a b l i (by omega) l[i] (List.getElem?_eq_getElem (by omega))).2 hb
    omega
theorem ahead_drop {a : AddrM} {b : Int} {l : List RouteM} (hs : l.Pairwise befR) : ∀ r ∈ l.drop (aheadM a b l), befM a b r.a r.bits = true := by
  intro r hr
  obtain ⟨i, hi, rfl⟩ := List.getElem_of_mem hr
  rw [List.length_drop] at hi
  rw [List.getElem_drop]
  have h0 : aheadM a b l < l.length := by omega
  have hb : befM a b (l[aheadM a b l]).a (l[aheadM a b l]).bits = true := by
    cases hb : befM a b (l[aheadM a b l]).a (l[aheadM a b l]).bits with
    | true => rfl
    | false =>
      have := (aheadM_step a b l _ (Nat.le_refl _) _ (List.getElem?_eq_getElem h0)).1 hb
      omega
  rcases Nat.eq_zero_or_pos i with h | h
  · subst h
    exact hb
  · exact bef_trans hb (List.pairwise_iff_getElem.1 hs _ _ h0 (by omega) (by omega))
theorem ins_sorted_fresh {a : AddrM} {b : Int} {l : List RouteM} (k : List UInt8) (ha : a.ok) (hok : ∀ r ∈ l, r.ok) (hv : validM a b = true) (h : FreshM a b l) (hl : l.length < 16) (hs : SortedM l) : SortedM (insM l a b k).1 := by
  refine ⟨fun r hr => ?_, ?_⟩
  · rcases List.mem_cons.1 ((ins_perm k hv h hl).subset hr) with rfl | hr
    · exact hv
    · exact hs.1 r hr
  · rw [ins_fresh k hv h hl, List.pairwise_append]
    refine ⟨hs.2.sublist (List.take_sublist _ _), ?_, ?_⟩
    · rw [List.pairwise_cons]
      exact ⟨fun r hr => ahead_drop hs.2 r hr, hs.2.sublist (List.drop_sublist _ _)⟩
    · intro r hr s hsm
      have hrb : befR r ⟨a, b, k⟩ := by
        have h1 := ahead_take r hr
        have h2 := h r (List.mem_of_mem_take hr)
        rw [RouteM.is, decide_eq_false_iff_not] at h2
        rcases bef_total (hok r (List.mem_of_mem_take hr)).1 ha h2 with h3 | h3
        · exact h3
        · rw [h1] at h3; cases h3
      rcases List.mem_cons.1 hsm with rfl | hsm
      · exact hrb
      · exact befR_trans hrb (ahead_drop hs.2 s hsm)
end Go.Proofs.Ytnblofbbbkjhpaa
namespace Go.Proofs.Ytnblofbbbkjhpaa
open Go.RowKit

end Go.Proofs.Ytnblofbbbkjhpaa
namespace Go.Proofs.Ytnblofbbbkjhpaa
open Go.RowKit

theorem bit_clear_all : ∀ m : Fin 8, ∀ k : Fin 8, ∀ x : Fin 256, (clearBit (UInt8.ofNat x.val) m.val).toNat / 2 ^ (7 - k.val) % 2 = if k = m then 0 else x.val / 2 ^ (7 - k.val) % 2 := by decide +kernel
theorem bit_clear (x : UInt8) (m k : Nat) (hm : m < 8) (hk : k < 8) : (clearBit x m).toNat / 2 ^ (7 - k) % 2 = if k = m then 0 else x.toNat / 2 ^ (7 - k) % 2 := by
  have h := bit_clear_all ⟨m, hm⟩ ⟨k, hk⟩ ⟨x.toNat, x.toNat_lt⟩
  simp only [UInt8.ofNat_toNat, Fin.mk.injEq] at h
  exact h
theorem clear_zero : ∀ m : Fin 8, clearBit 0 m.val = 0 := by decide
theorem mask_bit (ip : List UInt8) (hl : ip.length = 16) (b i : Nat) (hi : i < 128) : ∀ j, b + j ≤ 128 → bitM (clearS ip b j) i = if b ≤ i ∧ i < b + j then 0 else bitM ip i
  | 0, _ => by rw [if_neg (by omega)]; rfl
  | j + 1, h => by
    have ih := mask_bit ip hl b i hi j (by omega)
    have hml := clearS_length ip b j
    rw [clearS]
    generalize clearS ip b j = y at ih hml ⊢
    by_cases hq : i / 8 = (b + j) / 8
    · rw [bitM, hq, List.getD_eq_getElem?_getD, List.getElem?_set_self (by omega), Option.getD_some, bit_clear _ _ _ (by omega) (by omega)]
      rw [bitM, hq] at ih
      by_cases he : i % 8 = (b + j) % 8
      · rw [if_pos he, if_pos (by omega)]
      · rw [if_neg he, ih]
        by_cases hc : b ≤ i ∧ i < b + j
        · rw [if_pos hc, if_pos (by omega)]
        · rw [if_neg hc, if_neg (by omega)]
    · rw [bitM, List.getD_eq_getElem?_getD, List.getElem?_set_ne (by omega), ← List.getD_eq_getElem?_getD]
      rw [bitM] at ih
      rw [ih]
      by_cases hc : b ≤ i ∧ i < b + j
      · rw [if_pos hc, if_pos (by omega)]
      · rw [if_neg hc, if_neg (by omega)]
theorem mask_bits (a : AddrM) (h : a.ok) (b i : Nat) (hb : b ≤ 128) (hi : i < 128) : bitM (maskM a b).ip i = if b ≤ i then 0 else bitM a.ip i := by
  have := mask_bit a.ip h b i hi (128 - b) (by omega)
  rw [maskM]
  rw [this]
  by_cases hc : b ≤ i
  · rw [if_pos hc, if_pos (by omega)]
  · rw [if_neg hc, if_neg (by omega)]
theorem sound_iff (a : AddrM) : soundM a = true ↔ a.six = true ∨ ∀ q, 4 ≤ q → a.ip.getD q 0 = 0 := by
  rw [soundM, Bool.or_eq_true, List.all_eq_true]
  refine or_congr Iff.rfl ⟨fun h q hq => ?_, fun h x hx => ?_⟩
  · by_cases hl : q < a.ip.length
    · have := h (a.ip[q]) (by
        rw [List.mem_iff_getElem]
        exact ⟨q - 4, by rw [List.length_drop]; omega, by rw [List.getElem_drop]; congr 1; omega⟩)
      rw [List.getD_eq_getElem?_getD, List.getElem?_eq_getElem hl]
      exact beq_iff_eq.1 this
    · rw [List.getD_eq_getElem?_getD, List.getElem?_eq_none (by omega)]; rfl
  · obtain ⟨n, hn, rfl⟩ := List.mem_iff_getElem.1 hx
    rw [List.length_drop] at hn
    have := h (4 + n) (by omega)
    rw [List.getD_eq_getElem?_getD, List.getElem?_eq_getElem (by omega)] at this
    rw [List.getElem_drop]
    exact beq_iff_eq.2 this
theorem clearS_zero (ip : List UInt8) (b q : Nat) (hq : ip.getD q 0 = 0) : ∀ j, (clearS ip b j).getD q 0 = 0
  | 0 => hq
  | j + 1 => by
    have ih := clearS_zero ip b q hq j
    rw [clearS]
    by_cases he : (b + j) / 8 = q
    · rw [he, ih, clear_zero ⟨(b + j) % 8, Nat.mod_lt _ (by omega)⟩, List.getD_eq_getElem?_getD, List.getElem?_set]
      rw [if_pos rfl]
      split <;> rfl
    · rw [List.getD_eq_getElem?_getD, List.getElem?_set_ne he, ← List.getD_eq_getElem?_getD, ih]
theorem mask_sound (a : AddrM) (b : Nat) (hs : soundM a = true) : soundM (maskM a b) = true := by
  rw [sound_iff] at hs ⊢
  rcases hs with h | h
  · exact .inl h
  · exact .inr fun q hq => clearS_zero _ _ _ (h q hq) _
theorem width_le (a : AddrM) : widthM a ≤ 128 := by unfold widthM; split <;> omega
theorem mask_valid (a : AddrM) (h : a.ok) (b : Nat) (hb : b ≤ widthM a) (hs : soundM a = true) : validM (maskM a b) (b : Int) = true := by
  have hw := width_le a
  rw [validM_iff _ _ (mask_sound a b hs) (by omega) (by show (b : Int) ≤ (widthM a : Int); omega)]
  intro i hi hlt
  rw [mask_bits a h b i (by omega) hlt, if_pos (by omega)]
theorem codeA_sound (l : List UInt8) (p : Nat) : soundM (codeA l p) = true := by
  rw [sound_iff]
  by_cases h : sixV l p = true
  · exact .inl h
  · refine .inr fun q hq => ?_
    rw [codeA]
    dsimp only
    rw [if_neg h, fourB]
    generalize UInt8.ofNat (nextV l (nextP l p 3) 4) = u1
    generalize UInt8.ofNat (nextV l (nextP l (nextP l p 3) 4) 4) = u2
    generalize UInt8.ofNat (nextV l (nextP l (nextP l (nextP l p 3) 4) 4) 256) = u3
    obtain ⟨k, rfl⟩ : ∃ k, q = k + 4 := ⟨q - 4, by omega⟩
    show ([10, u1, u2, u3] ++ List.replicate 12 0 : List UInt8).getD (k + 4) 0 = 0
    rw [List.getD_eq_getElem?_getD, List.getElem?_append_right (by simp), show k + 4 - ([10, u1, u2, u3] : List UInt8).length = k from rfl, List.getElem?_replicate]
    split <;> rfl
end Go.Proofs.Ytnblofbbbkjhpaa
namespace Go.Proofs.Ytnblofbbbkjhpaa
open Go.RowKit

theorem codeM_valid (l : List UInt8) (p : Nat) : validM (codeM l p) (codePb l p : Int) = true := by
  refine mask_valid (codeA l p) (codeA_ok l p) (codePb l p) ?_ (codeA_sound l p)
  have h := nextV_lt l (codeAP l p) (codePn l p) (by unfold codePn; split <;> omega)
  have hw : codePn l p = widthM (codeA l p) + 1 := by
    unfold codePn widthM
    cases hs : sixV l p with
    | true => simp [codeA, hs]
    | false => simp [codeA, hs]
  unfold codePb
  omega
def toRt (x : (AddrM × Int) × UInt8) : RouteM := ⟨x.1.1, x.1.2, keyB x.2⟩
def GoodP (p : AddrM × Int) : Prop := p.1.ok ∧ validM p.1 p.2 = true
theorem GoodP.bits {p : AddrM × Int} (h : GoodP p) : 0 ≤ p.2 ∧ p.2 ≤ 128 := by
  have hw := widthM p.1
  have h2 := h.2
  unfold validM widthM at h2
  simp only [Bool.and_eq_true, decide_eq_true_eq] at h2
  have : (if p.1.six = true then 128 else 32 : Nat) ≤ 128 := by split <;> omega
  omega
theorem GoodP.i64 {p : AddrM × Int} (h : GoodP p) : inI64 p.2 := by
  have := h.bits
  unfold inI64
  omega
theorem insAll_spec : ∀ ys : List ((AddrM × Int) × UInt8), (ys.map (·.1)).Nodup → (∀ y ∈ ys, GoodP y.1) → ys.length ≤ 15 → List.Perm (insAll ys) (ys.map toRt) ∧ SortedM (insAll ys) ∧ (∀ r ∈ insAll ys, r.ok) := by
  suffices h : ∀ (q : Nat) (ys : List ((AddrM × Int) × UInt8)), ys.length = q → (ys.map (·.1)).Nodup → (∀ y ∈ ys, GoodP y.1) → ys.length ≤ 15 → List.Perm (insAll ys) (ys.map toRt) ∧ SortedM (insAll ys) ∧ (∀ r ∈ insAll ys, r.ok) from fun ys => h ys.length ys rfl
  intro q
  induction q with
  | zero =>
    intro ys h _ _ _
    obtain rfl := List.eq_nil_of_length_eq_zero h
    exact ⟨by simp [insAll], ⟨by simp [insAll], by simp [insAll]⟩, by simp [insAll]⟩
  | succ q ih0 =>
    intro ys hq hn hg hl
    rcases List.eq_nil_or_concat ys with rfl | ⟨ws, y, rfl⟩
    · simp at hq
    rw [List.concat_eq_append] at *
    have ih := ih0 ws (by simpa using hq)
    rw [List.map_append, List.nodup_append] at hn
    rw [List.length_append, List.length_singleton] at hl
    obtain ⟨h1, h2, h3⟩ := ih hn.1 (fun z hz => hg z (List.mem_append_left _ hz)) (by omega)
    have hy := hg y (List.mem_append_right _ (List.mem_singleton_self _))
    have hlen : (insAll ws).length = ws.length := by rw [h1.length_eq, List.length_map]
    have hf : FreshM y.1.1 y.1.2 (insAll ws) := by
      intro r hr
      obtain ⟨z, hz, rfl⟩ := List.mem_map.1 (h1.subset hr)
      rw [RouteM.is, decide_eq_false_iff_not]
      rintro ⟨e1, e2⟩
      exact hn.2.2 z.1 (List.mem_map_of_mem hz) y.1 (by simp) (Prod.ext e1 e2)
    rw [insAll_snoc]
    have hp := ins_perm (keyB y.2) hy.2 hf (by omega)
    refine ⟨?_, ins_sorted_fresh _ hy.1 h3 hy.2 hf (by omega) h2, ?_⟩
    · rw [List.map_append]
      exact hp.trans (((List.Perm.cons _ h1)).trans (List.perm_append_comm (l₁ := [toRt y]) (l₂ := ws.map toRt)))
    · intro r hr
      rcases List.mem_cons.1 (hp.subset hr) with rfl | hr
      · exact ⟨hy.1, rfl, hy.i64⟩
      · exact h3 r hr
theorem made_spec {l : List UInt8} {xs : List ((AddrM × Int) × UInt8)} (h : MadeOf l xs) : List.Perm (insAll xs) (xs.map toRt) ∧ SortedM (insAll xs) ∧ (∀ r ∈ insAll xs, r.ok) ∧ (insAll xs).length ≤ 10 := by
  obtain ⟨h1, h2, h3⟩ := insAll_spec xs h.2.1 (fun y hy => by
    obtain ⟨i, hi⟩ := h.2.2 y hy
    rw [hi]
    exact ⟨codeM_ok l i, codeM_valid l i⟩) (by have := h.1; omega)
  exact ⟨h1, h2, h3, by rw [h1.length_eq, List.length_map]; exact h.1⟩
end Go.Proofs.Ytnblofbbbkjhpaa
namespace Go.Proofs.Ytnblofbbbkjhpaa
open Go.RowKit

section
variable {F n m : Nat} {l l' : List RouteM}
def CapOk (m c : Nat) : Prop := m ≤ c ∧ c ≤ maxLen
end
end Go.Proofs.Ytnblofbbbkjhpaa
namespace Go.Proofs.Ytnblofbbbkjhpaa
open Go.RowKit

/-- what is asked of a predicate that is handed on, in every world in which what lies below B is as it was -/
def PredB (P : Program) (F : Nat) (lb : Array Value) (p : List Value → Bool) (B : Nat) (w : World) (os : List (List Value)) : Prop :=
  ∀ o ∈ os, ∀ W, Below B w W → Calls P F (#[.agg o.toArray] ++ lb) W fun e W' => e = .returned (.bool (p o)) ∧ Below W.heap.size W W'
def idxM (p : List Value → Bool) (os : List (List Value)) : Int := match os.findIdx? p with
  | none => -1
  | some i => (i : Int)
theorem idxM_none {p : List Value → Bool} {os : List (List Value)} (h : ∀ o ∈ os, p o = false) : idxM p os = -1 := by
  have e : os.findIdx? p = none := List.findIdx?_eq_none_iff.2 h
  unfold idxM
  rw [e]
theorem idxM_some {p : List Value → Bool} {os : List (List Value)} {j : Nat} {o : List Value} (ho : os[j]? = some o) (hp : p o = true) (hn : ∀ (q : Nat) x, q < j → os[q]? = some x → p x = false) : idxM p os = (j : Int) := by
  obtain ⟨hi, rfl⟩ := List.getElem?_eq_some_iff.1 ho
  have e : os.findIdx? p = some j := by
    rw [List.findIdx?_eq_some_iff_getElem]
    exact ⟨hi, hp, fun q hq => by simpa using hn q _ hq (List.getElem?_eq_getElem (by omega))⟩
  unfold idxM
  rw [e]
theorem all_false {p : List Value → Bool} {os : List (List Value)} {n : Nat} (hl : os.length = n) (h : ∀ (q : Nat) x, q < n → os[q]? = some x → p x = false) : ∀ o ∈ os, p o = false := by
  intro o ho
  obtain ⟨i, hi, rfl⟩ := List.getElem_of_mem ho
  exact h i _ (by omega) (List.getElem?_eq_getElem hi)
theorem one_flat {cs : List (List Value)} (h : ∀ o ∈ cs, ∀ v ∈ o, v.oneCell' = true) : ∀ v ∈ cs.flatten, v.oneCell' = true := fun v hv => by
  obtain ⟨o, ho, h2⟩ := List.mem_flatten.1 hv
  exact h o ho v h2
theorem own_sliceK {w : World} {base e k n : Nat} {v : Value} {xs : List Value} (h : w.ownsRow base e k v n xs) : ∃ A c, v = .slice A n c ∧ n ≤ c ∧ c ≤ maxLen ∧ ∀ ad, A = some ad → base ≤ ad.block := by
  rcases h.2 with ⟨rfl, rfl⟩ | ⟨g, cap, cur, rfl, hb, _, hn, hm, _⟩
  · exact ⟨none, 0, rfl, Nat.le_refl _, by unfold maxLen; omega, fun _ h => by cases h⟩
  · exact ⟨_, _, rfl, hn, hm, fun ad h => by injection h with h; subst h; exact hb⟩
end Go.Proofs.Ytnblofbbbkjhpaa
namespace Go.Proofs.Ytnblofbbbkjhpaa
open Go.RowKit

theorem rt_size (o : List Value) (h : o.length = 50) : (Try.prog.info? 37).map (·.size) = some o.length := by
  rw [h]; kernel_rfl
theorem rt_under : Try.prog.underlying 23 = some (.slice (Try.prog.elem 23)) := by kernel_rfl
theorem rt_elem : Try.prog.elem 23 = 37 := by kernel_rfl
theorem rt_sizeOf (w : World) : (sizeOf (Try.prog.elem 23)).run Try.prog w = .ok 50 w := by
  obtain ⟨i0, hi, _, hs, _⟩ := routeInfo
  rw [rt_elem]
  simp [sizeOf, typeInfo, hi, hs]
set_option maxRecDepth 100000 in
theorem rt_l (A : Option Addr) (n c i : Nat) (h2 : i ≤ n) (w : World) : (Instr.sliceAt 23 (.slice A n c) (some (.int .i64 (i : Int))) none none).run Try.prog w = .ok (.slice (addrK A i c 50) (n - i) (c - i)) w := by
  rw [run_sliceAt_slice (P := Try.prog) (w := w) 23 _ _ _ _ rt_under, run_slice_l (P := Try.prog) (w := w) 23 A n c rt_under .i64 i (by omega) (by omega), rt_sizeOf]
  simp only [Result.andThen, sliced, Int.toNat_natCast]
  rfl
set_option maxRecDepth 100000 in
theorem rt_h {n : Nat} (A : Option Addr) (c j : Nat) (h2 : j ≤ n) (h3 : n ≤ c) (w : World) : (Instr.sliceAt 23 (.slice A n c) none (some (.int .i64 (j : Int))) none).run Try.prog w = .ok (.slice (addrK A 0 c 50) j c) w := by
  rw [run_sliceAt_slice (P := Try.prog) (w := w) 23 _ _ _ _ rt_under, run_slice_h (P := Try.prog) (w := w) 23 A n c rt_under .i64 j (by omega) (by omega), rt_sizeOf]
  simp only [Result.andThen, sliced, Int.toNat_natCast, Nat.sub_zero]
  rfl
theorem addrK_zero_some (b off c k : Nat) : addrK (some ⟨b, off, none⟩) 0 c k = some ⟨b, off, none⟩ := by
  unfold addrK
  split
  · rfl
  · rw [Option.map_some, Go.WideShapes.add_plain, Nat.zero_mul, Nat.add_zero]
end Go.Proofs.Ytnblofbbbkjhpaa
namespace Go.Proofs.Ytnblofbbbkjhpaa
open Go.RowKit

set_option maxRecDepth 100000 in
set_option maxHeartbeats 16000000 in
theorem rtGrow_any (n : Nat) (hn : n ≤ 1000) (w : World) :
    Calls Try.prog 52 #[.slice none 0 0, .int .i64 (n : Int)] w fun e w' => ∃ v, e = .returned v ∧ w'.ownsRow w.heap.size 37 50 v 0 [] ∧ Below w.heap.size w w' := by
  obtain ⟨ik, hik, hiz, his, hib⟩ := routeInfo
  have HKI := Lib.hid (And.intro hik (And.intro hiz (And.intro his hib)))
  clear hik hiz his hib
  have q1 : IntKind.i64.wrap (n : Int) = (n : Int) := IntWalk.i64_in _ (by omega)
  rcases Nat.eq_zero_or_pos n with h0 | h0
  · subst h0
    go_enter Try.func52, Try.ntmps52
    go_wp2
    go_ret
    exact ⟨_, rfl, World.ownsRow_nil _ _ _ _, Below.refl _ _⟩
  · have d1 : decide ((n : Int) > 0) = true := by simp; omega
    have d2 : decide ((n : Int) < 0) = false := by simp
    have happ := Lib.run_append_nil_zeros (P := Try.prog) w 23 3 23 37 ik (.agg routeZ.toArray) .i64 .i64 Try.underlying23 Try.underlying3 HKI.out.1 HKI.out.2.1 n h0 (by rw [HKI.out.2.2.1]; omega) (by omega) (by rw [HKI.out.2.2.2]; omega)
    have hge := grownCap_ge w n 0 37
    have hcm := grownCap_le_maxLen w n 0 37 (by unfold maxLen; omega)
    obtain ⟨cp, hcp⟩ : ∃ z, grownCap w n 0 37 = z := ⟨_, rfl⟩
    rw [hcp] at happ hge hcm
    obtain ⟨cur, hcur⟩ : ∃ z, Builtin.zeroCells (Value.agg routeZ.toArray).cells n ++ Builtin.zeroCells (Value.agg routeZ.toArray).cells (cp - n) = z := ⟨_, rfl⟩
    have HS := Lib.hid (show cur.size = cp * 50 by
      rw [← hcur, Array.size_append, size_zeroCells, size_zeroCells, show (Value.agg routeZ.toArray).cells.size = 50 by rfl, ← Nat.add_mul]
      congr 1
      omega)
    rw [hcur] at happ
    have HA := Lib.hid happ
    have HC := Lib.hid hcm
    have hsl := rt_h (some ⟨w.heap.size, 0, none⟩) (n := n) cp 0 (Nat.zero_le _) hge
    rw [addrK_zero_some, show ((0 : Nat) : Int) = 0 from rfl] at hsl
    clear happ hge hcm hcp hcur
    go_enter Try.func52, Try.ntmps52
    go_wp2_with (at_builtin; refine Lib.wpList_append_run _ rfl _ _ _ _ rfl _ _ rfl rfl _ _ HA.out ?_)
    go_ret
    exact ⟨_, rfl, World.ownsRow_made w.drew cur cp (Nat.le_refl _) HC.out HS.out, (Below.refl _ _).drew.alloc (Nat.le_refl _) _⟩
end Go.Proofs.Ytnblofbbbkjhpaa
namespace Go.Proofs.Ytnblofbbbkjhpaa
open Go.RowKit

/-- slices of objects: where each lies, its length and capacity, and what it holds -/
abbrev RtPart := (Option Addr × Nat × Nat) × List (List Value)
def rtPartV (x : RtPart) : Value := .slice x.1.1 x.1.2.1 x.1.2.2
def rtLenP (ps : List RtPart) : Nat := (ps.map fun x => x.1.2.1).sum
theorem rtLenP_snoc {ps : List RtPart} {j : Nat} {x : RtPart} (h : ps[j]? = some x) : rtLenP (ps.take (j + 1)) = rtLenP (ps.take j) + x.1.2.1 := by
  rw [rtLenP, take_snoc h, List.map_append, List.sum_append]
  simp [rtLenP]
theorem rtLenP_take (ps : List RtPart) (j : Nat) : rtLenP (ps.take j) ≤ rtLenP ps := by
  have h := congrArg rtLenP (List.take_append_drop j ps)
  rw [rtLenP, List.map_append, List.sum_append] at h
  unfold rtLenP at *
  omega
theorem rtFlat_snoc {ps : List RtPart} {j : Nat} {x : RtPart} (h : ps[j]? = some x) : ((ps.take (j + 1)).flatMap (·.2)).flatten = ((ps.take j).flatMap (·.2)).flatten ++ x.2.flatten := by
  rw [take_snoc h, List.flatMap_append, List.flatten_append]
  simp
set_option maxRecDepth 100000 in
set_option maxHeartbeats 16000000 in
theorem rtConcat_any (b off q c : Nat) (ps : List RtPart) (hq : ps.length = q) (hq1 : q ≤ 1000) (hsum : rtLenP ps ≤ 1000) (w : World) (hlt : b < w.heap.size) (hat : At w b off (ps.map rtPartV)) (hps : ∀ x ∈ ps, RdRow w w.heap.size x.1.1 50 x.1.2.1 x.2 ∧ ∀ o ∈ x.2, ∀ v ∈ o, v.oneCell' = true) :
    Calls Try.prog 36 #[.slice (some ⟨b, off, none⟩) q c] w fun e w' => ∃ A' c', e = .returned (.slice A' (rtLenP ps) c') ∧ w'.ownsRow w.heap.size 37 50 (.slice A' (rtLenP ps) c') (rtLenP ps) (ps.flatMap (·.2)).flatten ∧ Below w.heap.size w w' := by
  have HAT := Lib.hid (show ∀ W, Below w.heap.size w W → At W b off (ps.map rtPartV) from fun W hW j v hv => (World.cell?_of_block (hW.block b hlt)).trans (hat j v hv))
  have HPS := Lib.hid hps
  have HQ := Lib.hid (And.intro hq hq1)
  have HSM := Lib.hid (show ∀ j, rtLenP (ps.take j) ≤ 1000 from fun j => Nat.le_trans (rtLenP_take ps j) hsum)
  obtain ⟨ik, hik, hiz, his, hib⟩ := routeInfo
  have HKI := Lib.hid (And.intro hik (And.intro hiz (And.intro his hib)))
  clear hik hiz his hib
  obtain ⟨tot, htot⟩ : ∃ z, rtLenP ps = z := ⟨_, rfl⟩
  rw [htot] at hsum
  have HGR := Lib.hid (rtGrow_any tot hsum)
  have HTOT := Lib.hid htot
  rw [htot]
  clear hat hps hq htot
  go_enter Try.func36, Try.ntmps36
  go_wp2_with fail
  go_loopw [11, 3] (fun vj vs wr => ∃ j s : Nat, j ≤ q ∧ vj = .int .i64 (j : Int) ∧ vs = .int .i64 (s : Int) ∧ rtLenP (ps.take j) = s ∧ Below w.heap.size w wr) (fun vj _ _ => q - (intOf vj).toNat)
  case atStart => exact ⟨0, 0, Nat.zero_le _, rfl, rfl, rfl, Below.refl _ _⟩
  case round =>
    obtain ⟨j, s, hj, rfl, rfl, hs, hbl⟩ := hrel
    have HBL := Lib.hid hbl
    have HS := Lib.hid hs
    clear hbl hs
    by_cases hjq : j < q
    · have d1 : decide ((j : Int) < (q : Int)) = true := by simp; omega
      obtain ⟨x, hx⟩ : ∃ x, ps[j]? = some x := ⟨ps[j]'(by rw [HQ.out.1]; exact hjq), List.getElem?_eq_getElem _⟩
      have hc := HAT.out wr HBL.out j (rtPartV x) (by rw [List.getElem?_map, hx]; rfl)
      have hsn := rtLenP_snoc hx
      rw [HS.out] at hsn
      obtain ⟨⟨Ax, nx, cx⟩, ox⟩ := x
      have hc' : wr.cell? ⟨b, off + j, none⟩ = some (.slice Ax nx cx) := hc
      have hb1 := HSM.out (j + 1)
      rw [hsn] at hb1
      have HSN := Lib.hid hsn
      clear hc hsn hx
      have hb2 : s + nx ≤ 1000 := hb1
      have d2 : decide ((s : Int) + (nx : Int) < 0) = false := by simp; omega
      clear hb1
      go_wp2_with fail
      go_roundw
      case rel => exact ⟨j + 1, s + nx, by omega, by go_num, by go_num, HSN.out, by assumption⟩
      case measure => simp [intOf]; omega
    · obtain rfl : q = j := by omega
      have d1 : decide ((q : Int) < (q : Int)) = false := by simp
      have hst : tot = s := by rw [← HTOT.out, ← HS.out, List.take_of_length_le (by rw [HQ.out.1]; exact Nat.le_refl _)]
      subst hst
      clear HS
      go_wp2_with fail
      refine (HGR.out _).mono ?_
      rintro e w2 ⟨v2, rfl, hown, hb⟩
      have HO := Lib.hid (And.intro (own_base hown HBL.out.size) (HBL.out.trans (hb.mono HBL.out.size)))
      clear hown hb HBL HGR
      go_wp2_with fail
      go_loopw [27, 6] (fun vj vo wr => ∃ j s : Nat, j ≤ q ∧ vj = .int .i64 (j : Int) ∧ rtLenP (ps.take j) = s ∧ wr.ownsRow w.heap.size 37 50 vo s ((ps.take j).flatMap (·.2)).flatten ∧ Below w.heap.size w wr) (fun vj _ _ => q - (intOf vj).toNat)
      case atStart => exact ⟨0, 0, Nat.zero_le _, rfl, rfl, HO.out.1, HO.out.2⟩
      case round =>
        clear HO
        obtain ⟨j, s, hj, rfl, hs, hown, hbl⟩ := hrel
        have HO := Lib.hid (And.intro hown hbl)
        have HS := Lib.hid hs
        clear hown hbl hs
        by_cases hjq : j < q
        · have d1 : decide ((j : Int) < (q : Int)) = true := by simp; omega
          obtain ⟨x, hx⟩ : ∃ x, ps[j]? = some x := ⟨ps[j]'(by rw [HQ.out.1]; exact hjq), List.getElem?_eq_getElem _⟩
          have hc := HAT.out _ HO.out.2 j (rtPartV x) (by rw [List.getElem?_map, hx]; rfl)
          have hsn := rtLenP_snoc hx
          rw [HS.out] at hsn
          have HFS := Lib.hid (rtFlat_snoc hx)
          have hpx := HPS.out x (List.mem_of_getElem? hx)
          obtain ⟨⟨Ax, nx, cx⟩, ox⟩ := x
          have hc' := hc
          simp only [rtPartV] at hc'
          have hb1 := HSM.out (j + 1)
          rw [hsn] at hb1
          have HSN := Lib.hid (And.intro hsn hb1)
          have HPX := Lib.hid (And.intro ((hpx.1.below HO.out.2).mono HO.out.2.size) (one_flat hpx.2))
          clear hc hsn hx hb1 hpx
          go_wp2_with (refine wpList_append_rows _ rfl (.tmp 31) (.tmp 32) 23 rfl w.heap.size 37 ik _ 50 64 Try.underlying23 HKI.out.1 HKI.out.2.1 HKI.out.2.2.1 HKI.out.2.2.2 (by rfl) (by omega) u6 s _ rfl HO.out.1 _ Ax nx cx ox rfl HPX.out.1 HPX.out.2 (by unfold maxLen; have := HSN.out.2; simp only at this; omega) (by have := HSN.out.2; simp only at this; omega) HO.out.2.size ?_; intro v6 w6 ho6 hg6 _)
          go_roundw
          case rel => exact ⟨j + 1, s + nx, by omega, by go_num, HSN.out.1, by rw [HFS.out]; exact ho6, HO.out.2.grown hg6 HO.out.2.size (own_from HO.out.1)⟩
          case measure => simp [intOf]; omega
        · obtain rfl : q = j := by omega
          have d1 : decide ((q : Int) < (q : Int)) = false := by simp
          have htk : ps.take q = ps := List.take_of_length_le (by rw [HQ.out.1]; exact Nat.le_refl _)
          have hst : s = tot := by rw [← HTOT.out, ← HS.out, htk]
          subst hst
          rw [htk] at HO
          obtain ⟨A9, c9, rfl, -, -, -⟩ := own_sliceK HO.out.1
          have HF := Lib.hid HO.out
          clear HO HS htk
          go_wp2
          go_ret
          exact ⟨A9, c9, rfl, HF.out.1, HF.out.2⟩
end Go.Proofs.Ytnblofbbbkjhpaa
namespace Go.Proofs.Ytnblofbbbkjhpaa
open Go.RowKit

set_option maxRecDepth 100000 in
set_option maxHeartbeats 8000000 in
theorem insPred_any (a : AddrM) (bits : Int) (hoa : a.ok) (hob : inI64 bits) (r : RouteM) (hr : r.ok) (G : Nat) (W : World) (hG : G < W.heap.size) (hat : At W G 0 (prefC a bits)) :
    Calls Try.prog 35 #[.agg r.cells.toArray, .pointer (some ⟨G, 0, none⟩)] W fun e W' => e = .returned (.bool (RouteM.is a bits r)) ∧ Below W.heap.size W W' := by
  have heq := pref_eqd r.a a r.bits bits hr.1 hoa hr.2.2 hob
  have HU := Lib.hid (pref_cellsOf' a hoa bits)
  have HR := Lib.hid hr
  obtain ⟨rc, hrc⟩ : ∃ z, r.cells.toArray = z := ⟨_, rfl⟩
  obtain ⟨fc, hfc⟩ : ∃ z, (prefC r.a r.bits).toArray = z := ⟨_, rfl⟩
  obtain ⟨pa, hpa⟩ : ∃ z, (prefC a bits).toArray = z := ⟨_, rfl⟩
  obtain ⟨y, hy⟩ : ∃ y, RouteM.is a bits r = y := ⟨_, rfl⟩
  have hy' : decide (r.a = a ∧ r.bits = bits) = y := hy
  rw [hfc, hpa, hy'] at heq
  rw [hrc, hy]
  have HEQ := Lib.hid heq
  have HFC := Lib.hid hfc
  have HPA := Lib.hid hpa
  have hb := (Below.refl W.heap.size W).alloc (Nat.le_refl _) (.cells rc 37)
  have HP := Lib.hid (show Blk (W.alloc (.cells rc 37)) W.heap.size 37 r.cells from by rw [← hrc]; exact Blk.new W 37 r.cells)
  have HAT := Lib.hid (show At (W.alloc (.cells rc 37)) G 0 (prefC a bits) from hat.mono hb hG)
  have HB := Lib.hid hb
  clear heq hr hat hrc hfc hpa hy hy' hb
  go_enter Try.func35, Try.ntmps35
  go_upto_region 1 with fail
  generalize W.alloc (.cells rc 37) = w1 at HP HAT HB ⊢
  generalize W.heap.size = P1 at HP ⊢
  go_wp2_with (first | (refine wpList_load_obj rfl 28 (.tmp 4) rfl P1 0 rfl (prefC r.a r.bits) (route_pref HP.out.all) _ Try.underlying28 rfl (pref_cellsOf' r.a HR.out.1 r.bits) ?_; rw [HFC.out]) | (refine wpList_load_obj rfl 28 (.tmp 1) rfl G 0 rfl (prefC a bits) HAT.out _ Try.underlying28 rfl HU.out ?_; rw [HPA.out]) | (refine wpList_eql_agg (by rfl) 28 28 5 6 rfl fc pa y rfl rfl prefix_noguard (HEQ.out _) ?_))
  go_ret
  exact ⟨rfl, HB.out⟩
/-- the predicate on cells: the first eighteen of them are those of a prefix -/
noncomputable def prefP (a : AddrM) (b : Int) (o : List Value) : Bool := @decide (o.take 18 = prefC a b) (Classical.propDecidable _)
theorem prefP_is {a : AddrM} {b : Int} (ha : a.ok) {r : RouteM} (hr : r.ok) : prefP a b r.cells = RouteM.is a b r := by
  unfold prefP RouteM.is
  rw [Bool.eq_iff_iff, @decide_eq_true_iff _ (Classical.propDecidable _), decide_eq_true_iff, RouteM.cells, List.take_left' (prefC_length r.a hr.1 _), prefC_inj hr.1 ha]
theorem rts_mem {l : List RouteM} (h : ∀ r ∈ l, r.ok) {o : List Value} (ho : o ∈ rtsV l) : ∃ r : RouteM, r.ok ∧ r.cells = o := by
  obtain ⟨r, hr, rfl⟩ := List.mem_map.1 ho
  exact ⟨r, h r hr, rfl⟩
theorem rts_one (l : List RouteM) : ∀ o ∈ rtsV l, ∀ v ∈ o, v.oneCell' = true := fun o ho v hv => by
  obtain ⟨r, _, rfl⟩ := List.mem_map.1 ho
  exact route_one r v hv
end Go.Proofs.Ytnblofbbbkjhpaa
namespace Go.Proofs.Ytnblofbbbkjhpaa
open Go.RowKit

theorem RdRow.ahead {W : World} {B k n : Nat} {A : Option Addr} {os : List (List Value)} (h : RdRow W B A k n os) (i c : Nat) (hi : i ≤ n) : RdRow W B (addrK A 0 c k) k i (os.take i) := by
  rcases Nat.eq_zero_or_pos i with h0 | h0
  · subst h0
    rw [List.take_zero]
    exact RdRow.nil
  · obtain ⟨b, off, rfl⟩ := h.addr (by omega)
    rw [addrK_zero_some]
    exact h.take i hi
def catV (A : Option Addr) (n c i j g1 : Nat) : List Value := [.slice (addrK A 0 c 50) i c, .slice (some ⟨g1, 0, none⟩) 1 1, .slice (addrK A j c 50) (n - j) (c - j)]
theorem cat_any (A : Option Addr) (n c i j : Nat) (l : List RouteM) (r : RouteM) (hn : n ≤ 100) (hnc : n ≤ c) (hi : i ≤ n) (hj : j ≤ n) (hok : r.ok) (g1 g2 : Nat) (t2 : TypeId) (W : World) (hr : RtRd W W.heap.size A n l) (h1 : Blk W g1 37 r.cells) (h2 : Blk W g2 t2 (catV A n c i j g1)) :
    Calls Try.prog 36 #[.slice (some ⟨g2, 0, none⟩) 3 3] W fun e w' => ∃ A' c', e = .returned (.slice A' (i + (1 + (n - j))) c') ∧ RtRd w' w'.heap.size A' (i + (1 + (n - j))) (l.take i ++ r :: l.drop j) ∧ (i + (1 + (n - j)) ≤ c' ∧ c' ≤ maxLen) ∧ Below W.heap.size W w' := by
  have hl := hr.len
  have hlen : rtLenP [((addrK A 0 c 50, i, c), rtsV (l.take i)), ((some ⟨g1, 0, none⟩, 1, 1), [r.cells]), ((addrK A j c 50, n - j, c - j), rtsV (l.drop j))] = i + (1 + (n - j)) := rfl
  have h := rtConcat_any g2 0 3 3 [((addrK A 0 c 50, i, c), rtsV (l.take i)), ((some ⟨g1, 0, none⟩, 1, 1), [r.cells]), ((addrK A j c 50, n - j, c - j), rtsV (l.drop j))] rfl (by omega) (by rw [hlen]; omega) W h2.lt h2.all (by
    intro x hx
    simp only [List.mem_cons, List.not_mem_nil, or_false] at hx
    rcases hx with rfl | rfl | rfl
    · exact ⟨by rw [← rtsV_take]; exact hr.1.ahead i c hi, rts_one _⟩
    · refine ⟨⟨rfl, fun o ho => ?_, fun _ => ⟨g1, 0, rfl, h1.lt, fun q v hq => ?_⟩⟩, fun o ho => ?_⟩
      · rw [List.mem_singleton] at ho; subst ho; exact RouteM.cells_length hok
      · rw [Nat.zero_add, h1.cell]; simpa using hq
      · rw [List.mem_singleton] at ho; subst ho; exact route_one r
    · exact ⟨by rw [← rtsV_drop]; exact hr.1.behind j c hj hnc, rts_one _⟩)
  rw [hlen] at h
  refine h.mono ?_
  rintro e w' ⟨A', c', rfl, ho, hb⟩
  obtain ⟨A9, c9, hv, hc1, hc2, -⟩ := own_sliceK ho
  injection hv with _ _ hc
  subst hc
  refine ⟨A', c', rfl, RtRd.of_own ?_ ?_ (show w'.ownsRow W.heap.size 37 50 (.slice A' (i + (1 + (n - j))) c') (i + (1 + (n - j))) (rtsV (l.take i ++ r :: l.drop j)).flatten from ?_), ⟨hc1, hc2⟩, hb⟩
  · rw [List.length_append, List.length_cons, List.length_take, List.length_drop, hl]; omega
  · intro q hq
    rcases List.mem_append.1 hq with hq | hq
    · exact hr.2 q (List.mem_of_mem_take hq)
    · rcases List.mem_cons.1 hq with rfl | hq
      · exact hok
      · exact hr.2 q (List.mem_of_mem_drop hq)
  · have e : ([((addrK A 0 c 50, i, c), rtsV (l.take i)), ((some ⟨g1, 0, none⟩, 1, 1), [r.cells]), ((addrK A j c 50, n - j, c - j), rtsV (l.drop j))] : List RtPart).flatMap (·.2) = rtsV (l.take i ++ r :: l.drop j) := by simp [rtsV]
    rw [← e]
    exact ho
theorem idxM_pref {l : List RouteM} (h : ∀ r ∈ l, r.ok) {a : AddrM} (ha : a.ok) (b : Int) : idxM (prefP a b) (rtsV l) = match findM a b l with
    | none => -1
    | some i => (i : Int) := by
  have e : (rtsV l).findIdx? (prefP a b) = findM a b l := by
    rw [rtsV, List.findIdx?_map, findM]
    have key : ∀ m : List RouteM, (∀ r ∈ m, r.ok) → m.findIdx? (prefP a b ∘ RouteM.cells) = m.findIdx? (RouteM.is a b) := by
      intro m
      induction m with
      | nil => intro _; rfl
      | cons x m ih =>
        intro hm
        rw [List.findIdx?_cons, List.findIdx?_cons, ih (fun r hr => hm r (List.mem_cons_of_mem _ hr))]
        simp only [Function.comp_apply, prefP_is ha (hm x (List.mem_cons_self ..))]
    exact key l h
  unfold idxM
  rw [e]
  all_goals (cases findM a b l <;> rfl)
end Go.Proofs.Ytnblofbbbkjhpaa
namespace Go.Proofs.Ytnblofbbbkjhpaa
open Go.RowKit

end Go.Proofs.Ytnblofbbbkjhpaa
namespace Go.Proofs.Ytnblofbbbkjhpaa
open Go.RowKit

end Go.Proofs.Ytnblofbbbkjhpaa
namespace Go.Proofs.Ytnblofbbbkjhpaa
open Go.RowKit

end Go.Proofs.Ytnblofbbbkjhpaa
namespace Go.Proofs.Ytnblofbbbkjhpaa
open Go.RowKit

end Go.Proofs.Ytnblofbbbkjhpaa
namespace Go.Proofs.Ytnblofbbbkjhpaa
open Go.RowKit

theorem route_bits (r : RouteM) (h : r.ok) : r.cells[17]? = some (.int .i64 r.bits) := by
  rw [RouteM.cells, List.getElem?_append_left (by rw [prefC_length r.a h.1]; omega)]
  exact prefC_bits r.a h.1 r.bits
set_option maxRecDepth 100000 in
set_option maxHeartbeats 16000000 in
theorem refLookup_any (A : Option Addr) (n c : Nat) (l : List RouteM) (hn : n ≤ 1000) (x : AddrM) (hx : x.ok) (w : World) (ha : RtRd w w.heap.size A n l) :
    Calls Try.prog 27 #[.slice A n c, .agg x.cells.toArray] w fun e w' => e = .returned (.tuple #[.agg ((lookM l x).1.map u8v).toArray, .bool (lookM l x).2]) ∧ Below w.heap.size w w' := by
  have HA := Lib.hid ha
  have HOX := Lib.hid hx
  obtain ⟨cx, hcx⟩ : ∃ z, x.cells.toArray = z := ⟨_, rfl⟩
  rw [hcx]
  have HCX := Lib.hid hcx
  have hm := ((Lows.nil w).alloc 26 cx x.cells hcx.symm).alloc 30 #[.int .u8 0, .int .u8 0, .int .u8 0, .int .u8 0, .int .u8 0, .int .u8 0, .int .u8 0, .int .u8 0, .int .u8 0, .int .u8 0, .int .u8 0, .int .u8 0, .int .u8 0, .int .u8 0, .int .u8 0, .int .u8 0, .int .u8 0, .int .u8 0, .int .u8 0, .int .u8 0, .int .u8 0, .int .u8 0, .int .u8 0, .int .u8 0, .int .u8 0, .int .u8 0, .int .u8 0, .int .u8 0, .int .u8 0, .int .u8 0, .int .u8 0, .int .u8 0] (aeZ 32) rfl
  have HM := Lib.hid (show Lows w [blkL (w.heap.size + 1) 30 (aeZ 32), blkL w.heap.size 26 x.cells] ((w.alloc (.cells cx 26)).alloc (.cells #[.int .u8 0, .int .u8 0, .int .u8 0, .int .u8 0, .int .u8 0, .int .u8 0, .int .u8 0, .int .u8 0, .int .u8 0, .int .u8 0, .int .u8 0, .int .u8 0, .int .u8 0, .int .u8 0, .int .u8 0, .int .u8 0, .int .u8 0, .int .u8 0, .int .u8 0, .int .u8 0, .int .u8 0, .int .u8 0, .int .u8 0, .int .u8 0, .int .u8 0, .int .u8 0, .int .u8 0, .int .u8 0, .int .u8 0, .int .u8 0, .int .u8 0, .int .u8 0] 30)) from by simpa using hm)
  clear ha hx hcx hm
  have HZK := Lib.hid (show (Try.prog.info? 30).map (·.size) = some (aeZ 32).length by kernel_rfl)
  go_enter Try.func27, Try.ntmps27
  go_upto_region 1 with fail
  generalize (w.alloc (.cells cx 26)).alloc (.cells #[.int .u8 0, .int .u8 0, .int .u8 0, .int .u8 0, .int .u8 0, .int .u8 0, .int .u8 0, .int .u8 0, .int .u8 0, .int .u8 0, .int .u8 0, .int .u8 0, .int .u8 0, .int .u8 0, .int .u8 0, .int .u8 0, .int .u8 0, .int .u8 0, .int .u8 0, .int .u8 0, .int .u8 0, .int .u8 0, .int .u8 0, .int .u8 0, .int .u8 0, .int .u8 0, .int .u8 0, .int .u8 0, .int .u8 0, .int .u8 0, .int .u8 0, .int .u8 0] 30) = w1 at HM ⊢
  go_wp2_with fail
  go_loopw [11, 6] (fun i vb wr => ∃ j : Nat, j ≤ n ∧ i = .int .i64 (j : Int) ∧ vb = .int .i64 (bestV (bestTo l x j)) ∧ Lows w [blkL (w.heap.size + 1) 30 (aeZ 32), blkL w.heap.size 26 x.cells] wr) (fun i _ _ => n - (intOf i).toNat)
  case atStart => exact ⟨0, by omega, rfl, rfl, HM.out⟩
  case round =>
    clear HM
    obtain ⟨j, hj, rfl, rfl, hM⟩ := hrel
    have HM := Lib.hid hM
    clear hM
    by_cases hjn : j < n
    · have d1 : decide ((j : Int) < (n : Int)) = true := by simp; omega
      obtain ⟨b, off, rfl⟩ := HA.out.1.addr (by omega)
      obtain ⟨r, hr⟩ : ∃ r, l[j]? = some r := ⟨l[j]'(by rw [HA.out.len]; exact hjn), List.getElem?_eq_getElem _⟩
      have HOK := Lib.hid (HA.out.ok hr)
      have hat := HA.out.at j r hr
      have HLA := Lib.hid (hat.2.mono HM.out.bel hat.1)
      have HJR := Lib.hid hr
      clear hat hr
      obtain ⟨rc, hrc⟩ : ∃ z, r.cells.toArray = z := ⟨_, rfl⟩
      have HRC := Lib.hid hrc
      have hvc := refContains_any r.a HOK.out.1 r.bits HOK.out.2.2.1 HOK.out.2.2.2 x HOX.out
      obtain ⟨rp, hrp⟩ : ∃ z, (prefC r.a r.bits).toArray = z := ⟨_, rfl⟩
      rw [hrp, HCX.out] at hvc
      have HRP := Lib.hid hrp
      have HCC := Lib.hid hvc
      clear hrc hrp hvc
      have HZ := Lib.hid (Blk.new wr 37 routeZ)
      obtain ⟨bt, hbt⟩ : ∃ z, bestTo l x j = z := ⟨_, rfl⟩
      rw [hbt]
      obtain ⟨bz, hbz⟩ : ∃ z, bestV bt = z := ⟨_, rfl⟩
      rw [hbz]
      go_upto_region 5 with (first | (refine wpList_load_obj rfl 37 (.tmp 14) rfl b _ rfl r.cells HLA.out _ Try.underlying37 rfl (route_cellsOf r HOK.out) ?_; rw [HRC.out]) | (refine wpList_store_obj rfl 37 (.tmp 8) (.tmp 15) rfl wr.heap.size 0 r.cells rfl (by show Value.agg rc = _; rw [HRC.out]) 37 routeZ HZ.out (route_cellsOf r HOK.out) (by rw [RouteM.cells_length HOK.out, routeZ_length]; omega) (route_one r) ?_; intro w5 hb4 hg4))
      rw [setL_all routeZ r.cells (by rw [RouteM.cells_length HOK.out, routeZ_length])] at hb4
      replace HM := Lib.hid (show Lows w [blkL wr.heap.size 37 r.cells, blkL (w.heap.size + 1) 30 (aeZ 32), blkL w.heap.size 26 x.cells] w5 from (HM.out.below (below_fresh hg4)).cons (blkL wr.heap.size 37 r.cells) hb4)
      clear hb4 hg4 HZ d1 HLA
      generalize wr.heap.size = P1 at HM ⊢
      obtain ⟨v, hv⟩ : ∃ v, containsM r.a r.bits x = v := ⟨_, rfl⟩
      rw [hv] at HCC
      cases v with
      | false =>
        have HBE := Lib.hid (show bestV (bestTo l x (j + 1)) = bz from by rw [bestTo_no HJR.out hv, hbt, hbz])
        clear hv hbt hbz
        refine wp_region_held_drew (S := fun W' => Lows w [blkL P1 37 r.cells, blkL (w.heap.size + 1) 30 (aeZ 32), blkL w.heap.size 26 x.cells] W') (by kernel_rfl) (HM.out.drew) (fun hHeld => ?_)
        replace HM := Lib.hid HM.out.drew
        generalize w5.drew = wd1 at HM hHeld ⊢
        refine take_first (v := ?_) 0 rfl (by kernel_rfl) (by kernel_rfl) (by kernel_rfl) (fun _ _ _ h => h) (Or.inl ⟨by rfl, ?_⟩) (by assumption) ?_
        rotate_left
        · (intro w hSw; (try dsimp only at hSw); go_simp; try with_reducible rfl)
        (try simp only [Act.put, List.setIfInBounds_toArray, List.set_cons_zero, List.set_cons_succ])
        refine take_first (v := .agg rp) 1 rfl (by kernel_rfl) (by kernel_rfl) (by kernel_rfl) (fun _ _ _ h => h) (by rw [← HRP.out]; exact yields_load_obj (by rfl) 28 (.tmp 16) rfl P1 0 rfl (prefC r.a r.bits) (fun w' hb => route_pref (Lows.blk hb 0 rfl).all) _ Try.underlying28 rfl (pref_cellsOf' r.a HOK.out.1 r.bits)) (by assumption) ?_
        (try simp only [Act.put, List.setIfInBounds_toArray, List.set_cons_zero, List.set_cons_succ])
        refine take_first (v := .agg cx) 2 rfl (by kernel_rfl) (by kernel_rfl) (by kernel_rfl) (fun _ _ _ h => h) (by rw [← HCX.out]; exact yields_load_obj (by rfl) 26 (.tmp 3) rfl w.heap.size 0 rfl x.cells (fun w' hb => (Lows.blk hb 2 rfl).all) _ Try.underlying26 rfl (addr_cellsOf x HOX.out)) (by assumption) ?_
        (try simp only [Act.put, List.setIfInBounds_toArray, List.set_cons_zero, List.set_cons_succ])
        refine step_one 3 rfl (by kernel_rfl) (fun K hK => ?_)
        clear hHeld
        go_simp
        refine (HCC.out _).mono ?_
        rintro e wy2 ⟨rfl, hb⟩
        replace HM := Lib.hid (show Lows w [blkL P1 37 r.cells, blkL (w.heap.size + 1) 30 (aeZ 32), blkL w.heap.size 26 x.cells] wy2 from HM.out.below hb)
        clear hb
        go_wp2_with fail
        refine hK.out _ _ (HM.out) (fun hHeld => ?_)
        clear hK K
        (try simp only [Act.put, List.setIfInBounds_toArray, List.set_cons_zero, List.set_cons_succ])
        refine take_first (v := ?_) 4 rfl (by kernel_rfl) (by kernel_rfl) (by kernel_rfl) (fun _ _ _ h => h) (Or.inl ⟨by rfl, ?_⟩) (by assumption) ?_
        rotate_left
        · (intro w hSw; (try dsimp only at hSw); go_simp; try with_reducible rfl)
        (try simp only [Act.put, List.setIfInBounds_toArray, List.set_cons_zero, List.set_cons_succ])
        refine take_first (v := undef) 5 rfl (by kernel_rfl) (by kernel_rfl) (by kernel_rfl) (fun _ _ _ h => h) (Or.inr ⟨by rfl, rfl⟩) (by assumption) ?_
        (try simp only [Act.put, List.setIfInBounds_toArray, List.set_cons_zero, List.set_cons_succ])
        refine take_first (v := undef) 6 rfl (by kernel_rfl) (by kernel_rfl) (by kernel_rfl) (fun _ _ _ h => h) (Or.inr ⟨by rfl, rfl⟩) (by assumption) ?_
        (try simp only [Act.put, List.setIfInBounds_toArray, List.set_cons_zero, List.set_cons_succ])
        refine take_first (v := undef) 7 rfl (by kernel_rfl) (by kernel_rfl) (by kernel_rfl) (fun _ _ _ h => h) (Or.inr ⟨by rfl, rfl⟩) (by assumption) ?_
        (try simp only [Act.put, List.setIfInBounds_toArray, List.set_cons_zero, List.set_cons_succ])
        refine take_first (v := undef) 8 rfl (by kernel_rfl) (by kernel_rfl) (by kernel_rfl) (fun _ _ _ h => h) (Or.inr ⟨by rfl, rfl⟩) (by assumption) ?_
        (try simp only [Act.put, List.setIfInBounds_toArray, List.set_cons_zero, List.set_cons_succ])
        refine take_first (v := undef) 9 rfl (by kernel_rfl) (by kernel_rfl) (by kernel_rfl) (fun _ _ _ h => h) (Or.inr ⟨by rfl, rfl⟩) (by assumption) ?_
        (try simp only [Act.put, List.setIfInBounds_toArray, List.set_cons_zero, List.set_cons_succ])
        refine take_first (v := undef) 10 rfl (by kernel_rfl) (by kernel_rfl) (by kernel_rfl) (fun _ _ _ h => h) (Or.inr ⟨by rfl, rfl⟩) (by assumption) ?_
        (try simp only [Act.put, List.setIfInBounds_toArray, List.set_cons_zero, List.set_cons_succ])
        refine take_first (v := undef) 11 rfl (by kernel_rfl) (by kernel_rfl) (by kernel_rfl) (fun _ _ _ h => h) (Or.inr ⟨by rfl, rfl⟩) (by assumption) ?_
        (try simp only [Act.put, List.setIfInBounds_toArray, List.set_cons_zero, List.set_cons_succ])
        refine take_first (v := undef) 12 rfl (by kernel_rfl) (by kernel_rfl) (by kernel_rfl) (fun _ _ _ h => h) (Or.inr ⟨by rfl, rfl⟩) (by assumption) ?_
        (try simp only [Act.put, List.setIfInBounds_toArray, List.set_cons_zero, List.set_cons_succ])
        refine take_first (v := undef) 13 rfl (by kernel_rfl) (by kernel_rfl) (by kernel_rfl) (fun _ _ _ h => h) (Or.inr ⟨by rfl, rfl⟩) (by assumption) ?_
        (try simp only [Act.put, List.setIfInBounds_toArray, List.set_cons_zero, List.set_cons_succ])
        refine take_first (v := undef) 14 rfl (by kernel_rfl) (by kernel_rfl) (by kernel_rfl) (fun _ _ _ h => h) (Or.inr ⟨by rfl, rfl⟩) (by assumption) ?_
        (try simp only [Act.put, List.setIfInBounds_toArray, List.set_cons_zero, List.set_cons_succ])
        refine take_first (v := undef) 15 rfl (by kernel_rfl) (by kernel_rfl) (by kernel_rfl) (fun _ _ _ h => h) (Or.inr ⟨by rfl, rfl⟩) (by assumption) ?_
        (try simp only [Act.put, List.setIfInBounds_toArray, List.set_cons_zero, List.set_cons_succ])
        refine take_first (v := undef) 16 rfl (by kernel_rfl) (by kernel_rfl) (by kernel_rfl) (fun _ _ _ h => h) (Or.inr ⟨by rfl, rfl⟩) (by assumption) ?_
        (try simp only [Act.put, List.setIfInBounds_toArray, List.set_cons_zero, List.set_cons_succ])
        refine take_first (v := undef) 17 rfl (by kernel_rfl) (by kernel_rfl) (by kernel_rfl) (fun _ _ _ h => h) (Or.inr ⟨by rfl, rfl⟩) (by assumption) ?_
        (try simp only [Act.put, List.setIfInBounds_toArray, List.set_cons_zero, List.set_cons_succ])
        refine take_first (v := undef) 18 rfl (by kernel_rfl) (by kernel_rfl) (by kernel_rfl) (fun _ _ _ h => h) (Or.inr ⟨by rfl, rfl⟩) (by assumption) ?_
        (try simp only [Act.put, List.setIfInBounds_toArray, List.set_cons_zero, List.set_cons_succ])
        refine take_first (v := ?_) 19 rfl (by kernel_rfl) (by kernel_rfl) (by kernel_rfl) (fun _ _ _ h => h) (Or.inl ⟨by rfl, ?_⟩) (by assumption) ?_
        rotate_left
        · (intro w hSw; (try dsimp only at hSw); go_simp; try with_reducible rfl)
        (try simp only [Act.put, List.setIfInBounds_toArray, List.set_cons_zero, List.set_cons_succ])
        refine wpAnyH_done (by kernel_rfl) ?_ _
        clear hHeld
        replace HM := Lib.hid (show Lows w [blkL (w.heap.size + 1) 30 (aeZ 32), blkL w.heap.size 26 x.cells] wy2 from HM.out.tail 0)
        go_wp2_with fail
        go_roundw
        case rel => exact ⟨j + 1, by omega, by go_num, by rw [HBE.out], HM.out⟩
        case measure => simp [intOf]; omega

      | true =>
        cases bt with
        | none =>
          subst hbz
          have HBE := Lib.hid (show bestTo l x (j + 1) = some j from bestTo_first HJR.out hv hbt)
          clear hv hbt
          have dz : decide (bestV none < 0) = true := by decide
          refine wp_region_held_drew (S := fun W' => Lows w [blkL P1 37 r.cells, blkL (w.heap.size + 1) 30 (aeZ 32), blkL w.heap.size 26 x.cells] W') (by kernel_rfl) (HM.out.drew) (fun hHeld => ?_)
          replace HM := Lib.hid HM.out.drew
          generalize w5.drew = wd1 at HM hHeld ⊢
          refine take_first (v := ?_) 0 rfl (by kernel_rfl) (by kernel_rfl) (by kernel_rfl) (fun _ _ _ h => h) (Or.inl ⟨by rfl, ?_⟩) (by assumption) ?_
          rotate_left
          · (intro w hSw; (try dsimp only at hSw); go_simp; try with_reducible rfl)
          (try simp only [Act.put, List.setIfInBounds_toArray, List.set_cons_zero, List.set_cons_succ])
          refine take_first (v := .agg rp) 1 rfl (by kernel_rfl) (by kernel_rfl) (by kernel_rfl) (fun _ _ _ h => h) (by rw [← HRP.out]; exact yields_load_obj (by rfl) 28 (.tmp 16) rfl P1 0 rfl (prefC r.a r.bits) (fun w' hb => route_pref (Lows.blk hb 0 rfl).all) _ Try.underlying28 rfl (pref_cellsOf' r.a HOK.out.1 r.bits)) (by assumption) ?_
          (try simp only [Act.put, List.setIfInBounds_toArray, List.set_cons_zero, List.set_cons_succ])
          refine take_first (v := .agg cx) 2 rfl (by kernel_rfl) (by kernel_rfl) (by kernel_rfl) (fun _ _ _ h => h) (by rw [← HCX.out]; exact yields_load_obj (by rfl) 26 (.tmp 3) rfl w.heap.size 0 rfl x.cells (fun w' hb => (Lows.blk hb 2 rfl).all) _ Try.underlying26 rfl (addr_cellsOf x HOX.out)) (by assumption) ?_
          (try simp only [Act.put, List.setIfInBounds_toArray, List.set_cons_zero, List.set_cons_succ])
          refine step_one 3 rfl (by kernel_rfl) (fun K hK => ?_)
          clear hHeld
          go_simp
          refine (HCC.out _).mono ?_
          rintro e wy2 ⟨rfl, hb⟩
          replace HM := Lib.hid (show Lows w [blkL P1 37 r.cells, blkL (w.heap.size + 1) 30 (aeZ 32), blkL w.heap.size 26 x.cells] wy2 from HM.out.below hb)
          clear hb
          go_wp2_with fail
          refine hK.out _ _ (HM.out) (fun hHeld => ?_)
          clear hK K
          (try simp only [Act.put, List.setIfInBounds_toArray, List.set_cons_zero, List.set_cons_succ])
          refine take_first (v := ?_) 4 rfl (by kernel_rfl) (by kernel_rfl) (by kernel_rfl) (fun _ _ _ h => h) (Or.inl ⟨by rfl, ?_⟩) (by assumption) ?_
          rotate_left
          · (intro w hSw; (try dsimp only at hSw); go_simp; try with_reducible rfl)
          (try simp only [Act.put, List.setIfInBounds_toArray, List.set_cons_zero, List.set_cons_succ])
          refine take_first (v := ?_) 5 rfl (by kernel_rfl) (by kernel_rfl) (by kernel_rfl) (fun _ _ _ h => h) (Or.inl ⟨by rfl, ?_⟩) (by assumption) ?_
          rotate_left
          · (intro w hSw; (try dsimp only at hSw); go_simp; try with_reducible rfl)
          (try simp only [Act.put, List.setIfInBounds_toArray, List.set_cons_zero, List.set_cons_succ])
          refine take_first (v := ?_) 6 rfl (by kernel_rfl) (by kernel_rfl) (by kernel_rfl) (fun _ _ _ h => h) (Or.inl ⟨by rfl, ?_⟩) (by assumption) ?_
          rotate_left
          · (intro w hSw; (try dsimp only at hSw); go_simp; try with_reducible rfl)
          (try simp only [Act.put, List.setIfInBounds_toArray, List.set_cons_zero, List.set_cons_succ])
          refine take_first (v := ?_) 7 rfl (by kernel_rfl) (by kernel_rfl) (by kernel_rfl) (fun _ _ _ h => h) (Or.inl ⟨by rfl, ?_⟩) (by assumption) ?_
          rotate_left
          · (intro w hSw; (try dsimp only at hSw); go_simp; try with_reducible rfl)
          (try simp only [Act.put, List.setIfInBounds_toArray, List.set_cons_zero, List.set_cons_succ])
          refine take_first (v := undef) 8 rfl (by kernel_rfl) (by kernel_rfl) (by kernel_rfl) (fun _ _ _ h => h) (Or.inr ⟨by rfl, rfl⟩) (by assumption) ?_
          (try simp only [Act.put, List.setIfInBounds_toArray, List.set_cons_zero, List.set_cons_succ])
          refine take_first (v := undef) 9 rfl (by kernel_rfl) (by kernel_rfl) (by kernel_rfl) (fun _ _ _ h => h) (Or.inr ⟨by rfl, rfl⟩) (by assumption) ?_
          (try simp only [Act.put, List.setIfInBounds_toArray, List.set_cons_zero, List.set_cons_succ])
          refine take_first (v := undef) 10 rfl (by kernel_rfl) (by kernel_rfl) (by kernel_rfl) (fun _ _ _ h => h) (Or.inr ⟨by rfl, rfl⟩) (by assumption) ?_
          (try simp only [Act.put, List.setIfInBounds_toArray, List.set_cons_zero, List.set_cons_succ])
          refine take_first (v := undef) 11 rfl (by kernel_rfl) (by kernel_rfl) (by kernel_rfl) (fun _ _ _ h => h) (Or.inr ⟨by rfl, rfl⟩) (by assumption) ?_
          (try simp only [Act.put, List.setIfInBounds_toArray, List.set_cons_zero, List.set_cons_succ])
          refine take_first (v := undef) 12 rfl (by kernel_rfl) (by kernel_rfl) (by kernel_rfl) (fun _ _ _ h => h) (Or.inr ⟨by rfl, rfl⟩) (by assumption) ?_
          (try simp only [Act.put, List.setIfInBounds_toArray, List.set_cons_zero, List.set_cons_succ])
          refine take_first (v := undef) 13 rfl (by kernel_rfl) (by kernel_rfl) (by kernel_rfl) (fun _ _ _ h => h) (Or.inr ⟨by rfl, rfl⟩) (by assumption) ?_
          (try simp only [Act.put, List.setIfInBounds_toArray, List.set_cons_zero, List.set_cons_succ])
          refine take_first (v := undef) 14 rfl (by kernel_rfl) (by kernel_rfl) (by kernel_rfl) (fun _ _ _ h => h) (Or.inr ⟨by rfl, rfl⟩) (by assumption) ?_
          (try simp only [Act.put, List.setIfInBounds_toArray, List.set_cons_zero, List.set_cons_succ])
          refine take_first (v := undef) 15 rfl (by kernel_rfl) (by kernel_rfl) (by kernel_rfl) (fun _ _ _ h => h) (Or.inr ⟨by rfl, rfl⟩) (by assumption) ?_
          (try simp only [Act.put, List.setIfInBounds_toArray, List.set_cons_zero, List.set_cons_succ])
          refine take_first (v := undef) 16 rfl (by kernel_rfl) (by kernel_rfl) (by kernel_rfl) (fun _ _ _ h => h) (Or.inr ⟨by rfl, rfl⟩) (by assumption) ?_
          (try simp only [Act.put, List.setIfInBounds_toArray, List.set_cons_zero, List.set_cons_succ])
          refine take_first (v := undef) 17 rfl (by kernel_rfl) (by kernel_rfl) (by kernel_rfl) (fun _ _ _ h => h) (Or.inr ⟨by rfl, rfl⟩) (by assumption) ?_
          (try simp only [Act.put, List.setIfInBounds_toArray, List.set_cons_zero, List.set_cons_succ])
          refine take_first (v := ?_) 18 rfl (by kernel_rfl) (by kernel_rfl) (by kernel_rfl) (fun _ _ _ h => h) (Or.inl ⟨by rfl, ?_⟩) (by assumption) ?_
          rotate_left
          · (intro w hSw; (try dsimp only at hSw); go_simp; try with_reducible rfl)
          (try simp only [Act.put, List.setIfInBounds_toArray, List.set_cons_zero, List.set_cons_succ])
          refine take_first (v := ?_) 19 rfl (by kernel_rfl) (by kernel_rfl) (by kernel_rfl) (fun _ _ _ h => h) (Or.inl ⟨by rfl, ?_⟩) (by assumption) ?_
          rotate_left
          · (intro w hSw; (try dsimp only at hSw); go_simp; try with_reducible rfl)
          (try simp only [Act.put, List.setIfInBounds_toArray, List.set_cons_zero, List.set_cons_succ])
          refine wpAnyH_done (by kernel_rfl) ?_ _
          clear hHeld
          replace HM := Lib.hid (show Lows w [blkL (w.heap.size + 1) 30 (aeZ 32), blkL w.heap.size 26 x.cells] wy2 from HM.out.tail 0)
          go_wp2_with fail
          go_roundw
          case rel => exact ⟨j + 1, by omega, by go_num, by rw [HBE.out]; rfl, HM.out⟩
          case measure => simp [intOf]; omega

        | some k =>
          have hkj := bestTo_lt hbt
          obtain ⟨q, hq⟩ : ∃ q, l[k]? = some q := ⟨l[k]'(by rw [HA.out.len]; omega), List.getElem?_eq_getElem _⟩
          have HOQ := Lib.hid (HA.out.ok hq)
          have hat := HA.out.at k q hq
          have HLQ := Lib.hid (show ∀ W, Below w.heap.size w W → W.cell? ⟨b, off + k * 50 + 17, none⟩ = some (.int .i64 q.bits) from fun W hW => (hat.2.mono hW hat.1) 17 _ (route_bits q HOQ.out))
          have hbm := bestTo_more HJR.out hv hbt hq
          have hbz2 : bz = (k : Int) := by rw [← hbz]; rfl
          subst hbz2
          have dz : decide ((k : Int) < 0) = false := by simp
          have ek : (k : Int) < (n : Int) := by omega
          clear hat hq hv hbz hbt
          by_cases hlt : q.bits < r.bits
          · have HBE := Lib.hid (hbm.trans (if_pos hlt))
            have db : decide (q.bits < r.bits) = true := by simpa using hlt
            clear hbm hlt
            refine wp_region_held_drew (S := fun W' => Lows w [blkL P1 37 r.cells, blkL (w.heap.size + 1) 30 (aeZ 32), blkL w.heap.size 26 x.cells] W') (by kernel_rfl) (HM.out.drew) (fun hHeld => ?_)
            replace HM := Lib.hid HM.out.drew
            generalize w5.drew = wd1 at HM hHeld ⊢
            refine take_first (v := ?_) 0 rfl (by kernel_rfl) (by kernel_rfl) (by kernel_rfl) (fun _ _ _ h => h) (Or.inl ⟨by rfl, ?_⟩) (by assumption) ?_
            rotate_left
            · (intro w hSw; (try dsimp only at hSw); go_simp; try with_reducible rfl)
            (try simp only [Act.put, List.setIfInBounds_toArray, List.set_cons_zero, List.set_cons_succ])
            refine take_first (v := .agg rp) 1 rfl (by kernel_rfl) (by kernel_rfl) (by kernel_rfl) (fun _ _ _ h => h) (by rw [← HRP.out]; exact yields_load_obj (by rfl) 28 (.tmp 16) rfl P1 0 rfl (prefC r.a r.bits) (fun w' hb => route_pref (Lows.blk hb 0 rfl).all) _ Try.underlying28 rfl (pref_cellsOf' r.a HOK.out.1 r.bits)) (by assumption) ?_
            (try simp only [Act.put, List.setIfInBounds_toArray, List.set_cons_zero, List.set_cons_succ])
            refine take_first (v := .agg cx) 2 rfl (by kernel_rfl) (by kernel_rfl) (by kernel_rfl) (fun _ _ _ h => h) (by rw [← HCX.out]; exact yields_load_obj (by rfl) 26 (.tmp 3) rfl w.heap.size 0 rfl x.cells (fun w' hb => (Lows.blk hb 2 rfl).all) _ Try.underlying26 rfl (addr_cellsOf x HOX.out)) (by assumption) ?_
            (try simp only [Act.put, List.setIfInBounds_toArray, List.set_cons_zero, List.set_cons_succ])
            refine step_one 3 rfl (by kernel_rfl) (fun K hK => ?_)
            clear hHeld
            go_simp
            refine (HCC.out _).mono ?_
            rintro e wy2 ⟨rfl, hb⟩
            replace HM := Lib.hid (show Lows w [blkL P1 37 r.cells, blkL (w.heap.size + 1) 30 (aeZ 32), blkL w.heap.size 26 x.cells] wy2 from HM.out.below hb)
            clear hb
            go_wp2_with fail
            refine hK.out _ _ (HM.out) (fun hHeld => ?_)
            clear hK K
            (try simp only [Act.put, List.setIfInBounds_toArray, List.set_cons_zero, List.set_cons_succ])
            refine take_first (v := ?_) 4 rfl (by kernel_rfl) (by kernel_rfl) (by kernel_rfl) (fun _ _ _ h => h) (Or.inl ⟨by rfl, ?_⟩) (by assumption) ?_
            rotate_left
            · (intro w hSw; (try dsimp only at hSw); go_simp; try with_reducible rfl)
            (try simp only [Act.put, List.setIfInBounds_toArray, List.set_cons_zero, List.set_cons_succ])
            refine take_first (v := ?_) 5 rfl (by kernel_rfl) (by kernel_rfl) (by kernel_rfl) (fun _ _ _ h => h) (Or.inl ⟨by rfl, ?_⟩) (by assumption) ?_
            rotate_left
            · (intro w hSw; (try dsimp only at hSw); go_simp; try with_reducible rfl)
            (try simp only [Act.put, List.setIfInBounds_toArray, List.set_cons_zero, List.set_cons_succ])
            refine take_first (v := ?_) 6 rfl (by kernel_rfl) (by kernel_rfl) (by kernel_rfl) (fun _ _ _ h => h) (Or.inl ⟨by rfl, ?_⟩) (by assumption) ?_
            rotate_left
            · (intro w hSw; (try dsimp only at hSw); go_simp; try with_reducible rfl)
            (try simp only [Act.put, List.setIfInBounds_toArray, List.set_cons_zero, List.set_cons_succ])
            refine take_first (v := ?_) 7 rfl (by kernel_rfl) (by kernel_rfl) (by kernel_rfl) (fun _ _ _ h => h) (Or.inl ⟨by rfl, ?_⟩) (by assumption) ?_
            rotate_left
            · (intro w hSw; (try dsimp only at hSw); go_simp; try with_reducible rfl)
            (try simp only [Act.put, List.setIfInBounds_toArray, List.set_cons_zero, List.set_cons_succ])
            refine take_first (v := ?_) 8 rfl (by kernel_rfl) (by kernel_rfl) (by kernel_rfl) (fun _ _ _ h => h) (Or.inl ⟨by rfl, ?_⟩) (by assumption) ?_
            rotate_left
            · (intro w hSw; (try dsimp only at hSw); go_simp; try with_reducible rfl)
            (try simp only [Act.put, List.setIfInBounds_toArray, List.set_cons_zero, List.set_cons_succ])
            refine take_first (v := ?_) 9 rfl (by kernel_rfl) (by kernel_rfl) (by kernel_rfl) (fun _ _ _ h => h) (Or.inl ⟨by rfl, ?_⟩) (by assumption) ?_
            rotate_left
            · (intro w hSw; (try dsimp only at hSw); go_simp; try with_reducible rfl)
            (try simp only [Act.put, List.setIfInBounds_toArray, List.set_cons_zero, List.set_cons_succ])
            refine take_first (v := ?_) 10 rfl (by kernel_rfl) (by kernel_rfl) (by kernel_rfl) (fun _ _ _ h => h) (Or.inl ⟨by rfl, ?_⟩) (by assumption) ?_
            rotate_left
            · (intro w hSw; (try dsimp only at hSw); have fb := (Lows.blk hSw 0 rfl).cell 17; rw [route_bits r HOK.out] at fb; go_simp; try with_reducible rfl)
            (try simp only [Act.put, List.setIfInBounds_toArray, List.set_cons_zero, List.set_cons_succ])
            refine take_first (v := ?_) 11 rfl (by kernel_rfl) (by kernel_rfl) (by kernel_rfl) (fun _ _ _ h => h) (Or.inl ⟨by rfl, ?_⟩) (by assumption) ?_
            rotate_left
            · (intro w hSw; (try dsimp only at hSw); go_simp; try with_reducible rfl)
            (try simp only [Act.put, List.setIfInBounds_toArray, List.set_cons_zero, List.set_cons_succ])
            refine take_first (v := ?_) 12 rfl (by kernel_rfl) (by kernel_rfl) (by kernel_rfl) (fun _ _ _ h => h) (Or.inl ⟨by rfl, ?_⟩) (by assumption) ?_
            rotate_left
            · (intro w hSw; (try dsimp only at hSw); go_simp; try with_reducible rfl)
            (try simp only [Act.put, List.setIfInBounds_toArray, List.set_cons_zero, List.set_cons_succ])
            refine take_first (v := ?_) 13 rfl (by kernel_rfl) (by kernel_rfl) (by kernel_rfl) (fun _ _ _ h => h) (Or.inl ⟨by rfl, ?_⟩) (by assumption) ?_
            rotate_left
            · (intro w hSw; (try dsimp only at hSw); go_simp; try with_reducible rfl)
            (try simp only [Act.put, List.setIfInBounds_toArray, List.set_cons_zero, List.set_cons_succ])
            refine take_first (v := ?_) 14 rfl (by kernel_rfl) (by kernel_rfl) (by kernel_rfl) (fun _ _ _ h => h) (Or.inl ⟨by rfl, ?_⟩) (by assumption) ?_
            rotate_left
            · (intro w hSw; (try dsimp only at hSw); go_simp; try with_reducible rfl)
            (try simp only [Act.put, List.setIfInBounds_toArray, List.set_cons_zero, List.set_cons_succ])
            refine take_first (v := ?_) 15 rfl (by kernel_rfl) (by kernel_rfl) (by kernel_rfl) (fun _ _ _ h => h) (Or.inl ⟨by rfl, ?_⟩) (by assumption) ?_
            rotate_left
            · (intro w hSw; (try dsimp only at hSw); go_simp; try with_reducible rfl)
            (try simp only [Act.put, List.setIfInBounds_toArray, List.set_cons_zero, List.set_cons_succ])
            refine take_first (v := ?_) 16 rfl (by kernel_rfl) (by kernel_rfl) (by kernel_rfl) (fun _ _ _ h => h) (Or.inl ⟨by rfl, ?_⟩) (by assumption) ?_
            rotate_left
            · (intro w hSw; (try dsimp only at hSw); have fq := HLQ.out _ hSw.bel; go_simp; try with_reducible rfl)
            (try simp only [Act.put, List.setIfInBounds_toArray, List.set_cons_zero, List.set_cons_succ])
            refine take_first (v := ?_) 17 rfl (by kernel_rfl) (by kernel_rfl) (by kernel_rfl) (fun _ _ _ h => h) (Or.inl ⟨by rfl, ?_⟩) (by assumption) ?_
            rotate_left
            · (intro w hSw; (try dsimp only at hSw); go_simp; try with_reducible rfl)
            (try simp only [Act.put, List.setIfInBounds_toArray, List.set_cons_zero, List.set_cons_succ])
            refine take_first (v := ?_) 18 rfl (by kernel_rfl) (by kernel_rfl) (by kernel_rfl) (fun _ _ _ h => h) (Or.inl ⟨by rfl, ?_⟩) (by assumption) ?_
            rotate_left
            · (intro w hSw; (try dsimp only at hSw); go_simp; try with_reducible rfl)
            (try simp only [Act.put, List.setIfInBounds_toArray, List.set_cons_zero, List.set_cons_succ])
            refine take_first (v := ?_) 19 rfl (by kernel_rfl) (by kernel_rfl) (by kernel_rfl) (fun _ _ _ h => h) (Or.inl ⟨by rfl, ?_⟩) (by assumption) ?_
            rotate_left
            · (intro w hSw; (try dsimp only at hSw); go_simp; try with_reducible rfl)
            (try simp only [Act.put, List.setIfInBounds_toArray, List.set_cons_zero, List.set_cons_succ])
            refine wpAnyH_done (by kernel_rfl) ?_ _
            clear hHeld
            replace HM := Lib.hid (show Lows w [blkL (w.heap.size + 1) 30 (aeZ 32), blkL w.heap.size 26 x.cells] wy2 from HM.out.tail 0)
            go_wp2_with fail
            go_roundw
            case rel => exact ⟨j + 1, by omega, by go_num, by rw [HBE.out]; rfl, HM.out⟩
            case measure => simp [intOf]; omega

          · have HBE := Lib.hid (hbm.trans (if_neg hlt))
            have db : decide (q.bits < r.bits) = false := by simpa using hlt
            clear hbm hlt
            refine wp_region_held_drew (S := fun W' => Lows w [blkL P1 37 r.cells, blkL (w.heap.size + 1) 30 (aeZ 32), blkL w.heap.size 26 x.cells] W') (by kernel_rfl) (HM.out.drew) (fun hHeld => ?_)
            replace HM := Lib.hid HM.out.drew
            generalize w5.drew = wd1 at HM hHeld ⊢
            refine take_first (v := ?_) 0 rfl (by kernel_rfl) (by kernel_rfl) (by kernel_rfl) (fun _ _ _ h => h) (Or.inl ⟨by rfl, ?_⟩) (by assumption) ?_
            rotate_left
            · (intro w hSw; (try dsimp only at hSw); go_simp; try with_reducible rfl)
            (try simp only [Act.put, List.setIfInBounds_toArray, List.set_cons_zero, List.set_cons_succ])
            refine take_first (v := .agg rp) 1 rfl (by kernel_rfl) (by kernel_rfl) (by kernel_rfl) (fun _ _ _ h => h) (by rw [← HRP.out]; exact yields_load_obj (by rfl) 28 (.tmp 16) rfl P1 0 rfl (prefC r.a r.bits) (fun w' hb => route_pref (Lows.blk hb 0 rfl).all) _ Try.underlying28 rfl (pref_cellsOf' r.a HOK.out.1 r.bits)) (by assumption) ?_
            (try simp only [Act.put, List.setIfInBounds_toArray, List.set_cons_zero, List.set_cons_succ])
            refine take_first (v := .agg cx) 2 rfl (by kernel_rfl) (by kernel_rfl) (by kernel_rfl) (fun _ _ _ h => h) (by rw [← HCX.out]; exact yields_load_obj (by rfl) 26 (.tmp 3) rfl w.heap.size 0 rfl x.cells (fun w' hb => (Lows.blk hb 2 rfl).all) _ Try.underlying26 rfl (addr_cellsOf x HOX.out)) (by assumption) ?_
            (try simp only [Act.put, List.setIfInBounds_toArray, List.set_cons_zero, List.set_cons_succ])
            refine step_one 3 rfl (by kernel_rfl) (fun K hK => ?_)
            clear hHeld
            go_simp
            refine (HCC.out _).mono ?_
            rintro e wy2 ⟨rfl, hb⟩
            replace HM := Lib.hid (show Lows w [blkL P1 37 r.cells, blkL (w.heap.size + 1) 30 (aeZ 32), blkL w.heap.size 26 x.cells] wy2 from HM.out.below hb)
            clear hb
            go_wp2_with fail
            refine hK.out _ _ (HM.out) (fun hHeld => ?_)
            clear hK K
            (try simp only [Act.put, List.setIfInBounds_toArray, List.set_cons_zero, List.set_cons_succ])
            refine take_first (v := ?_) 4 rfl (by kernel_rfl) (by kernel_rfl) (by kernel_rfl) (fun _ _ _ h => h) (Or.inl ⟨by rfl, ?_⟩) (by assumption) ?_
            rotate_left
            · (intro w hSw; (try dsimp only at hSw); go_simp; try with_reducible rfl)
            (try simp only [Act.put, List.setIfInBounds_toArray, List.set_cons_zero, List.set_cons_succ])
            refine take_first (v := ?_) 5 rfl (by kernel_rfl) (by kernel_rfl) (by kernel_rfl) (fun _ _ _ h => h) (Or.inl ⟨by rfl, ?_⟩) (by assumption) ?_
            rotate_left
            · (intro w hSw; (try dsimp only at hSw); go_simp; try with_reducible rfl)
            (try simp only [Act.put, List.setIfInBounds_toArray, List.set_cons_zero, List.set_cons_succ])
            refine take_first (v := ?_) 6 rfl (by kernel_rfl) (by kernel_rfl) (by kernel_rfl) (fun _ _ _ h => h) (Or.inl ⟨by rfl, ?_⟩) (by assumption) ?_
            rotate_left
            · (intro w hSw; (try dsimp only at hSw); go_simp; try with_reducible rfl)
            (try simp only [Act.put, List.setIfInBounds_toArray, List.set_cons_zero, List.set_cons_succ])
            refine take_first (v := ?_) 7 rfl (by kernel_rfl) (by kernel_rfl) (by kernel_rfl) (fun _ _ _ h => h) (Or.inl ⟨by rfl, ?_⟩) (by assumption) ?_
            rotate_left
            · (intro w hSw; (try dsimp only at hSw); go_simp; try with_reducible rfl)
            (try simp only [Act.put, List.setIfInBounds_toArray, List.set_cons_zero, List.set_cons_succ])
            refine take_first (v := ?_) 8 rfl (by kernel_rfl) (by kernel_rfl) (by kernel_rfl) (fun _ _ _ h => h) (Or.inl ⟨by rfl, ?_⟩) (by assumption) ?_
            rotate_left
            · (intro w hSw; (try dsimp only at hSw); go_simp; try with_reducible rfl)
            (try simp only [Act.put, List.setIfInBounds_toArray, List.set_cons_zero, List.set_cons_succ])
            refine take_first (v := ?_) 9 rfl (by kernel_rfl) (by kernel_rfl) (by kernel_rfl) (fun _ _ _ h => h) (Or.inl ⟨by rfl, ?_⟩) (by assumption) ?_
            rotate_left
            · (intro w hSw; (try dsimp only at hSw); go_simp; try with_reducible rfl)
            (try simp only [Act.put, List.setIfInBounds_toArray, List.set_cons_zero, List.set_cons_succ])
            refine take_first (v := ?_) 10 rfl (by kernel_rfl) (by kernel_rfl) (by kernel_rfl) (fun _ _ _ h => h) (Or.inl ⟨by rfl, ?_⟩) (by assumption) ?_
            rotate_left
            · (intro w hSw; (try dsimp only at hSw); have fb := (Lows.blk hSw 0 rfl).cell 17; rw [route_bits r HOK.out] at fb; go_simp; try with_reducible rfl)
            (try simp only [Act.put, List.setIfInBounds_toArray, List.set_cons_zero, List.set_cons_succ])
            refine take_first (v := ?_) 11 rfl (by kernel_rfl) (by kernel_rfl) (by kernel_rfl) (fun _ _ _ h => h) (Or.inl ⟨by rfl, ?_⟩) (by assumption) ?_
            rotate_left
            · (intro w hSw; (try dsimp only at hSw); go_simp; try with_reducible rfl)
            (try simp only [Act.put, List.setIfInBounds_toArray, List.set_cons_zero, List.set_cons_succ])
            refine take_first (v := ?_) 12 rfl (by kernel_rfl) (by kernel_rfl) (by kernel_rfl) (fun _ _ _ h => h) (Or.inl ⟨by rfl, ?_⟩) (by assumption) ?_
            rotate_left
            · (intro w hSw; (try dsimp only at hSw); go_simp; try with_reducible rfl)
            (try simp only [Act.put, List.setIfInBounds_toArray, List.set_cons_zero, List.set_cons_succ])
            refine take_first (v := ?_) 13 rfl (by kernel_rfl) (by kernel_rfl) (by kernel_rfl) (fun _ _ _ h => h) (Or.inl ⟨by rfl, ?_⟩) (by assumption) ?_
            rotate_left
            · (intro w hSw; (try dsimp only at hSw); go_simp; try with_reducible rfl)
            (try simp only [Act.put, List.setIfInBounds_toArray, List.set_cons_zero, List.set_cons_succ])
            refine take_first (v := ?_) 14 rfl (by kernel_rfl) (by kernel_rfl) (by kernel_rfl) (fun _ _ _ h => h) (Or.inl ⟨by rfl, ?_⟩) (by assumption) ?_
            rotate_left
            · (intro w hSw; (try dsimp only at hSw); go_simp; try with_reducible rfl)
            (try simp only [Act.put, List.setIfInBounds_toArray, List.set_cons_zero, List.set_cons_succ])
            refine take_first (v := ?_) 15 rfl (by kernel_rfl) (by kernel_rfl) (by kernel_rfl) (fun _ _ _ h => h) (Or.inl ⟨by rfl, ?_⟩) (by assumption) ?_
            rotate_left
            · (intro w hSw; (try dsimp only at hSw); go_simp; try with_reducible rfl)
            (try simp only [Act.put, List.setIfInBounds_toArray, List.set_cons_zero, List.set_cons_succ])
            refine take_first (v := ?_) 16 rfl (by kernel_rfl) (by kernel_rfl) (by kernel_rfl) (fun _ _ _ h => h) (Or.inl ⟨by rfl, ?_⟩) (by assumption) ?_
            rotate_left
            · (intro w hSw; (try dsimp only at hSw); have fq := HLQ.out _ hSw.bel; go_simp; try with_reducible rfl)
            (try simp only [Act.put, List.setIfInBounds_toArray, List.set_cons_zero, List.set_cons_succ])
            refine take_first (v := ?_) 17 rfl (by kernel_rfl) (by kernel_rfl) (by kernel_rfl) (fun _ _ _ h => h) (Or.inl ⟨by rfl, ?_⟩) (by assumption) ?_
            rotate_left
            · (intro w hSw; (try dsimp only at hSw); go_simp; try with_reducible rfl)
            (try simp only [Act.put, List.setIfInBounds_toArray, List.set_cons_zero, List.set_cons_succ])
            refine take_first (v := ?_) 18 rfl (by kernel_rfl) (by kernel_rfl) (by kernel_rfl) (fun _ _ _ h => h) (Or.inl ⟨by rfl, ?_⟩) (by assumption) ?_
            rotate_left
            · (intro w hSw; (try dsimp only at hSw); go_simp; try with_reducible rfl)
            (try simp only [Act.put, List.setIfInBounds_toArray, List.set_cons_zero, List.set_cons_succ])
            refine take_first (v := ?_) 19 rfl (by kernel_rfl) (by kernel_rfl) (by kernel_rfl) (fun _ _ _ h => h) (Or.inl ⟨by rfl, ?_⟩) (by assumption) ?_
            rotate_left
            · (intro w hSw; (try dsimp only at hSw); go_simp; try with_reducible rfl)
            (try simp only [Act.put, List.setIfInBounds_toArray, List.set_cons_zero, List.set_cons_succ])
            refine wpAnyH_done (by kernel_rfl) ?_ _
            clear hHeld
            replace HM := Lib.hid (show Lows w [blkL (w.heap.size + 1) 30 (aeZ 32), blkL w.heap.size 26 x.cells] wy2 from HM.out.tail 0)
            go_wp2_with fail
            go_roundw
            case rel => exact ⟨j + 1, by omega, by go_num, by rw [HBE.out]; rfl, HM.out⟩
            case measure => simp [intOf]; omega

    · obtain rfl : j = n := by omega
      have d1 : decide ((j : Int) < (j : Int)) = false := by simp
      have hl := HA.out.len
      have hbl : bestTo l x l.length = bestTo l x j := by rw [hl]
      cases hbt : bestTo l x j with
      | none =>
        have HV := Lib.hid (show lookM l x = (List.replicate 32 0, false) from by rw [lookM, hbl, hbt])
        have dz : decide (bestV none < 0) = true := by decide
        clear hbl hbt hl
        go_wp2_with (first | (refine wpList_build_as rfl 30 [] rfl #[.int .u8 0, .int .u8 0, .int .u8 0, .int .u8 0, .int .u8 0, .int .u8 0, .int .u8 0, .int .u8 0, .int .u8 0, .int .u8 0, .int .u8 0, .int .u8 0, .int .u8 0, .int .u8 0, .int .u8 0, .int .u8 0, .int .u8 0, .int .u8 0, .int .u8 0, .int .u8 0, .int .u8 0, .int .u8 0, .int .u8 0, .int .u8 0, .int .u8 0, .int .u8 0, .int .u8 0, .int .u8 0, .int .u8 0, .int .u8 0, .int .u8 0, .int .u8 0] ?_ ?_; kernel_rfl) | (refine wpList_store_obj rfl 30 (.tmp 4) (.tmp 40) rfl (w.heap.size + 1) 0 (aeZ 32) rfl (by rfl) 30 (aeZ 32) (HM.out.blk 0 rfl) HZK.out (by decide) (by decide) ?_; intro w9 hb9 hg9))
        rw [setL_all _ _ rfl] at hb9
        exact bodyPost_ret (results_obj_tmp rfl _ _ (w.heap.size + 1) 30 (aeZ 32) _ rfl hb9 Try.underlying30 rfl HZK.out) rfl ⟨by rw [HV.out]; rfl, HM.out.bel.grown hg9 HM.out.bel.size (fun k hk => by injection hk with hk; omega)⟩
      | some k =>
        have hkj := bestTo_lt hbt
        obtain ⟨b, off, rfl⟩ := HA.out.1.addr (by omega)
        obtain ⟨q, hq⟩ : ∃ q, l[k]? = some q := ⟨l[k]'(by omega), List.getElem?_eq_getElem _⟩
        have HOQ := Lib.hid (HA.out.ok hq)
        have hat := HA.out.at k q hq
        have HLQ := Lib.hid (route_peer (hat.2.mono HM.out.bel hat.1) HOQ.out)
        have HV := Lib.hid (show lookM l x = (q.peer, true) from by
          rw [lookM, hbl, hbt]
          show (match l[k]? with | none => _ | some r => (r.peer, true)) = _
          rw [hq])
        have dz : decide ((k : Int) < 0) = false := by simp
        have hbv : bestV (some k) = (k : Int) := rfl
        rw [hbv]
        clear hbl hbt hl hat hq hbv
        obtain ⟨kc, hkc⟩ : ∃ z, (q.peer.map u8v).toArray = z := ⟨_, rfl⟩
        have HKC := Lib.hid hkc
        have HKS := Lib.hid (key_cellsOf q.peer HOQ.out.2.1)
        clear hkc
        go_wp2_with (first | (refine wpList_load_obj rfl 30 (.tmp 44) rfl b _ rfl (q.peer.map u8v) HLQ.out _ Try.underlying30 rfl HKS.out ?_; rw [HKC.out]) | (refine wpList_store_obj rfl 30 (.tmp 4) (.tmp 45) rfl (w.heap.size + 1) 0 (q.peer.map u8v) rfl (by show Value.agg kc = _; rw [HKC.out]) 30 (aeZ 32) (HM.out.blk 0 rfl) HKS.out (by rw [List.length_map, HOQ.out.2.1]; decide) (u8v_one _) ?_; intro w9 hb9 hg9))
        rw [setL_all _ _ (by rw [List.length_map, HOQ.out.2.1]; rfl)] at hb9
        exact bodyPost_ret (results_obj_tmp rfl _ _ (w.heap.size + 1) 30 (q.peer.map u8v) _ rfl hb9 Try.underlying30 rfl HKS.out) rfl ⟨by rw [HV.out]; rfl, HM.out.bel.grown hg9 HM.out.bel.size (fun k hk => by injection hk with hk; omega)⟩
end Go.Proofs.Ytnblofbbbkjhpaa
namespace Go.Proofs.Ytnblofbbbkjhpaa
open Go.RowKit

theorem refLookC : RtLookC 27 := fun A n c l x w hx h => refLookup_any A n c l (by have := h.1; omega) x hx w h.2.2.2
end Go.Proofs.Ytnblofbbbkjhpaa
namespace Go.Proofs.Ytnblofbbbkjhpaa
open Go.RowKit

theorem contains_nonneg {a x : AddrM} {b : Int} (h : containsM a b x = true) : 0 ≤ b := by
  unfold containsM validM at h
  simp only [Bool.and_eq_true, decide_eq_true_eq] at h
  omega
theorem bestTo_some {l : List RouteM} {x : AddrM} : ∀ {j i : Nat}, bestTo l x j = some i → ∃ r, l[i]? = some r ∧ containsM r.a r.bits x = true
  | 0, _, h => by cases h
  | j + 1, i, h => by
    cases hj : l[j]? with
    | none =>
      rw [bestTo, hj] at h
      exact bestTo_some h
    | some r =>
      cases hc : containsM r.a r.bits x with
      | false =>
        rw [bestTo_no hj hc] at h
        exact bestTo_some h
      | true =>
        cases hb : bestTo l x j with
        | none =>
          rw [bestTo_first hj hc hb] at h
          injection h with h
          subst h
          exact ⟨r, hj, hc⟩
        | some k =>
          obtain ⟨q, hq, hqc⟩ := bestTo_some hb
          rw [bestTo_more hj hc hb hq] at h
          split at h
          · injection h with h
            subst h
            exact ⟨r, hj, hc⟩
          · injection h with h
            subst h
            exact ⟨q, hq, hqc⟩
/-- the bits and the peer of the longest prefix so far -/
def longTo (l : List RouteM) (x : AddrM) (j : Nat) : Int × List UInt8 := match bestTo l x j with
  | none => (-1, List.replicate 32 0)
  | some i => match l[i]? with
    | none => (-1, List.replicate 32 0)
    | some r => (r.bits, r.peer)
theorem longTo_none {l : List RouteM} {x : AddrM} {j : Nat} (h : bestTo l x j = none) : longTo l x j = (-1, List.replicate 32 0) := by rw [longTo, h]
theorem longTo_some {l : List RouteM} {x : AddrM} {j i : Nat} {r : RouteM} (h : bestTo l x j = some i) (hr : l[i]? = some r) : longTo l x j = (r.bits, r.peer) := by
  rw [longTo, h]
  show (match l[i]? with | none => _ | some r => (r.bits, r.peer)) = _
  rw [hr]
theorem longTo_end (l : List RouteM) (x : AddrM) : lookM l x = ((longTo l x l.length).2, decide (0 ≤ (longTo l x l.length).1)) := by
  cases hb : bestTo l x l.length with
  | none => rw [longTo_none hb, lookM, hb]; rfl
  | some k =>
    obtain ⟨q, hq, hc⟩ := bestTo_some hb
    have h0 := contains_nonneg hc
    rw [longTo_some hb hq, lookM, hb]
    show (match l[k]? with | none => _ | some r => (r.peer, true)) = _
    rw [hq]
    simp [h0]
end Go.Proofs.Ytnblofbbbkjhpaa
namespace Go.Proofs.Ytnblofbbbkjhpaa
open Go.RowKit

/-- min of two numbers, by a name for what it gives -/
theorem wpList_min_int {P : Program} {w : World} {ops : Array Oper} {rest : List Oper} {o : Oper} {a : Act} {Q : Exit → Act → World → Prop} (hgd : o.guard = none) (x y : Operand) (ts : Array TypeId) (ho : o.op = .call { callee := .builtin .min, args := #[x, y], argTypes := ts })
    (u v m : Int) (hx : a.eval x = .int .i64 u) (hy : a.eval y = .int .i64 v) (hm : min u v = m) (h : wpList P ops Q rest (a.put o.dst (.int .i64 m)) w) : wpList P ops Q (o :: rest) a w :=
  wpList_plain hgd fun K hK => by
    have hr : (Builtin.min_ ts o.type #[.int .i64 u, .int .i64 v]).run P w = .ok (.int .i64 m) w := by
      subst hm
      by_cases huv : u ≤ v
      · rw [Int.min_eq_left huv]
        simp [Builtin.min_, Builtin.min2]
        try omega
      · rw [Int.min_eq_right (by omega)]
        simp [Builtin.min_, Builtin.min2]
        try omega
    unfold Oper.wp execOp
    simp only [ho, resolve, invoke, builtin, Sem.run_bind, Sem.run_pure, Result.andThen_ok, List.map_toArray, List.map_cons, List.map_nil, hx, hy, hr]
    exact hK _ _ h
end Go.Proofs.Ytnblofbbbkjhpaa
namespace Go.Proofs.Ytnblofbbbkjhpaa
open Go.RowKit

theorem longTo_peer {l : List RouteM} (hl : ∀ r ∈ l, r.ok) (x : AddrM) (j : Nat) : (longTo l x j).2.length = 32 := by
  cases hb : bestTo l x j with
  | none => rw [longTo_none hb]; rfl
  | some i =>
    obtain ⟨r, hr, _⟩ := bestTo_some hb
    rw [longTo_some hb hr]
    exact (hl r (List.mem_of_getElem? hr)).2.1
end Go.Proofs.Ytnblofbbbkjhpaa
