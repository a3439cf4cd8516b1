/-
  The mathematics of the replay window: what Check and Accept give, and that a window stands for the set of counters that it accepted. No function of the program is named here.
-/
import Derived.Test.YteidabgkidablaaObjRows
namespace Go.Proofs.Yteidabgkidablaa
open Go.RowKit

structure WinM where
  used : Bool
  top : Nat
  ws : List Nat
def WinM.ok (w : WinM) : Prop := w.top < 18446744073709551616 ∧ w.ws.length = 4 ∧ ∀ x ∈ w.ws, x < 18446744073709551616
def u64n (x : Nat) : Value := .int .u64 (x : Int)
def WinM.cells (w : WinM) : List Value := .bool w.used :: u64n w.top :: w.ws.map u64n
def win0 : WinM := ⟨false, 0, [0, 0, 0, 0]⟩
theorem win0_ok : win0.ok := ⟨by decide, rfl, by decide⟩
/-- the word of a counter's block -/
def wordM (ws : List Nat) (c : Nat) : Nat := ws.getD (c / 64 % 4) 0
def checkM (w : WinM) (c : Nat) : Bool := !w.used || decide (w.top < c) || (decide (w.top / 64 ≤ c / 64 + 3) && !(wordM w.ws c).testBit (c % 64))
def clearM (ws : List Nat) (b : Nat) : Nat → List Nat
  | 0 => ws
  | n + 1 => (clearM ws b n).set ((b + (n + 1)) % 4) 0
def freshM (w : WinM) (c : Nat) : WinM := if w.used then w else ⟨true, c, [0, 0, 0, 0]⟩
def moveM (w : WinM) (c : Nat) : WinM := if w.top < c then ⟨w.used, c, clearM w.ws (w.top / 64) (min (c / 64 - w.top / 64) 4)⟩ else w
def markM (w : WinM) (c : Nat) : WinM := ⟨w.used, w.top, w.ws.set (c / 64 % 4) (wordM w.ws c ||| 2 ^ (c % 64))⟩
def acceptM (w : WinM) (c : Nat) : WinM × Bool := if checkM w c then (markM (moveM (freshM w c) c) c, true) else (w, false)
theorem clearM_length (ws : List Nat) (b n : Nat) : (clearM ws b n).length = ws.length := by
  induction n with
  | zero => rfl
  | succ n ih => rw [clearM, List.length_set, ih]
theorem clearM_mem {ws : List Nat} (h : ∀ x ∈ ws, x < 18446744073709551616) (b n : Nat) : ∀ x ∈ clearM ws b n, x < 18446744073709551616 := by
  induction n with
  | zero => exact h
  | succ n ih =>
    intro x hx
    rcases List.mem_or_eq_of_mem_set hx with h1 | rfl
    · exact ih x h1
    · decide
theorem clearM_at {ws : List Nat} (hl : ws.length = 4) (b n j : Nat) (hj : j < 4) : (∃ i, 1 ≤ i ∧ i ≤ n ∧ (b + i) % 4 = j) ∧ (clearM ws b n).getD j 0 = 0 ∨ (∀ i, 1 ≤ i → i ≤ n → (b + i) % 4 ≠ j) ∧ (clearM ws b n).getD j 0 = ws.getD j 0 := by
  induction n with
  | zero => exact .inr ⟨fun i h1 h2 => by omega, rfl⟩
  | succ n ih =>
    have hl2 := (clearM_length ws b n).trans hl
    by_cases h : (b + (n + 1)) % 4 = j
    · refine .inl ⟨⟨n + 1, by omega, Nat.le_refl _, h⟩, ?_⟩
      rw [clearM, h, List.getD_eq_getElem?_getD, List.getElem?_set_self (by omega)]
      rfl
    · have e : (clearM ws b (n + 1)).getD j 0 = (clearM ws b n).getD j 0 := by
        rw [clearM, List.getD_eq_getElem?_getD, List.getD_eq_getElem?_getD, List.getElem?_set_ne h]
      rw [e]
      rcases ih with ⟨⟨i, h1, h2, h3⟩, h4⟩ | ⟨h1, h2⟩
      · exact .inl ⟨⟨i, h1, by omega, h3⟩, h4⟩
      · refine .inr ⟨fun i h3 h4 => ?_, h2⟩
        rcases Nat.lt_or_ge n i with h5 | h5
        · obtain rfl : i = n + 1 := by omega
          exact h
        · exact h1 i h3 h5
theorem or_lt64 {x k : Nat} (hx : x < 18446744073709551616) (hk : k < 64) : x ||| 2 ^ k < 18446744073709551616 := by
  have h : x ||| 2 ^ k < 2 ^ 64 := Nat.or_lt_two_pow (by simpa using hx) (Nat.pow_lt_pow_right (by omega) hk)
  simpa using h
theorem mark_at (ws : List Nat) (hl : ws.length = 4) (c j k : Nat) : ((ws.set (c / 64 % 4) (wordM ws c ||| 2 ^ (c % 64))).getD j 0).testBit k = ((ws.getD j 0).testBit k || decide (j = c / 64 % 4 ∧ k = c % 64)) := by
  by_cases h : c / 64 % 4 = j
  · subst h
    rw [List.getD_eq_getElem?_getD, List.getElem?_set_self (by omega), Option.getD_some, Nat.testBit_or, Nat.testBit_two_pow, wordM]
    congr 1
    rw [Bool.eq_iff_iff, decide_eq_true_iff, decide_eq_true_iff]
    constructor
    · intro h; exact ⟨rfl, h.symm⟩
    · intro h; exact h.2.symm
  · rw [List.getD_eq_getElem?_getD, List.getElem?_set_ne h, ← List.getD_eq_getElem?_getD]
    have : decide (j = c / 64 % 4 ∧ k = c % 64) = false := by simp; omega
    rw [this, Bool.or_false]
theorem word_lt {w : WinM} (h : w.ok) (c : Nat) : wordM w.ws c < 18446744073709551616 := by
  rw [wordM, List.getD_eq_getElem?_getD]
  cases hc : w.ws[c / 64 % 4]? with
  | none => decide
  | some x => exact h.2.2 x (List.mem_of_getElem? hc)
theorem freshM_ok {w : WinM} (h : w.ok) {c : Nat} (hc : c < 18446744073709551616) : (freshM w c).ok := by
  unfold freshM
  split
  · exact h
  · exact ⟨hc, rfl, by simp⟩
theorem moveM_ok {w : WinM} (h : w.ok) {c : Nat} (hc : c < 18446744073709551616) : (moveM w c).ok := by
  unfold moveM
  split
  · exact ⟨hc, (clearM_length _ _ _).trans h.2.1, clearM_mem h.2.2 _ _⟩
  · exact h
theorem markM_ok {w : WinM} (h : w.ok) (c : Nat) : (markM w c).ok := by
  refine ⟨h.1, by rw [markM, List.length_set]; exact h.2.1, fun x hx => ?_⟩
  rcases List.mem_or_eq_of_mem_set hx with h1 | rfl
  · exact h.2.2 x h1
  · exact or_lt64 (word_lt h c) (by omega)
theorem acceptM_ok {w : WinM} (h : w.ok) {c : Nat} (hc : c < 18446744073709551616) : (acceptM w c).1.ok := by
  unfold acceptM
  split
  · exact markM_ok (moveM_ok (freshM_ok h hc) hc) c
  · exact h
/-- a window stands for the counters that it accepted -/
def WInv (w : WinM) (S : List Nat) : Prop := (S = [] ∧ w = win0) ∨ (w.used = true ∧ w.ok ∧ w.top ∈ S ∧ (∀ x ∈ S, x ≤ w.top) ∧ ∀ j k, j < 4 → k < 64 → ((w.ws.getD j 0).testBit k = true ↔ ∃ x ∈ S, x / 64 % 4 = j ∧ x % 64 = k ∧ w.top / 64 < x / 64 + 4))
theorem WInv.nil : WInv win0 [] := .inl ⟨rfl, rfl⟩
theorem WInv.ok {w : WinM} {S : List Nat} (h : WInv w S) : w.ok := by
  rcases h with ⟨_, rfl⟩ | h
  · exact win0_ok
  · exact h.2.1
/-- what Accept answers -/
def newM (S : List Nat) (top c : Nat) : Bool := !S.contains c && !(!S.isEmpty && decide (c / 64 + 4 ≤ top / 64))
theorem bits_of {a k c : Nat} (h1 : a / 64 % 4 = c / 64 % 4) (h2 : a % 64 = k) (h3 : k = c % 64) {t : Nat} (ha : a ≤ t) (hc : c ≤ t) (ha2 : t / 64 < a / 64 + 4) (hc2 : t / 64 < c / 64 + 4) : a = c := by omega
theorem accept_inv {w : WinM} {S : List Nat} (h : WInv w S) {c : Nat} (hc : c < 18446744073709551616) : (acceptM w c).2 = newM S w.top c ∧ ((acceptM w c).2 = false → (acceptM w c).1 = w) ∧ WInv (acceptM w c).1 (if (acceptM w c).2 then c :: S else S) ∧ ((acceptM w c).2 = true → (acceptM w c).1.top = max w.top c) := by
  rcases h with ⟨rfl, rfl⟩ | ⟨hu, hok, htS, hmax, hbits⟩
  · have e : acceptM win0 c = (markM (moveM ⟨true, c, [0, 0, 0, 0]⟩ c) c, true) := rfl
    have e2 : moveM ⟨true, c, [0, 0, 0, 0]⟩ c = ⟨true, c, [0, 0, 0, 0]⟩ := if_neg (by simp)
    rw [e, e2]
    refine ⟨rfl, (by simp), .inr ⟨rfl, markM_ok ⟨hc, rfl, by simp⟩ c, by simp [markM], by simp [markM], fun j k hj hk => ?_⟩, fun _ => by simp [markM, win0]⟩
    show ((List.set [0, 0, 0, 0] (c / 64 % 4) (wordM [0, 0, 0, 0] c ||| 2 ^ (c % 64))).getD j 0).testBit k = true ↔ _
    rw [mark_at _ rfl]
    have hz : ([0, 0, 0, 0] : List Nat).getD j 0 = 0 := by
      match j, hj with
      | 0, _ => rfl
      | 1, _ => rfl
      | 2, _ => rfl
      | 3, _ => rfl
    rw [hz, Nat.zero_testBit, Bool.false_or, decide_eq_true_iff]
    simp only [if_true, List.mem_singleton, exists_eq_left, markM]
    constructor
    · rintro ⟨rfl, rfl⟩; exact ⟨rfl, rfl, by omega⟩
    · rintro ⟨rfl, rfl, _⟩; exact ⟨rfl, rfl⟩
  · have hne : S.isEmpty = false := by
      cases S with
      | nil => simp at htS
      | cons => rfl
    by_cases hlt : w.top < c
    · have hch : checkM w c = true := by simp [checkM, hlt]
      have e : acceptM w c = (markM ⟨true, c, clearM w.ws (w.top / 64) (min (c / 64 - w.top / 64) 4)⟩ c, true) := by
        rw [acceptM, if_pos hch, freshM, if_pos hu, moveM, if_pos hlt, hu]
      have hcS : c ∉ S := fun h => by have := hmax c h; omega
      have hl2 := (clearM_length w.ws (w.top / 64) (min (c / 64 - w.top / 64) 4)).trans hok.2.1
      rw [e]
      refine ⟨?_, (by simp), .inr ⟨rfl, markM_ok ⟨hc, hl2, clearM_mem hok.2.2 _ _⟩ c, by simp [markM], fun x hx => ?_, fun j k hj hk => ?_⟩, fun _ => by simp [markM]; omega⟩
      · have : decide (c / 64 + 4 ≤ w.top / 64) = false := by simp; omega
        rw [newM, this, Bool.and_false, List.contains_eq_mem, decide_eq_false hcS]
        rfl
      · simp only [if_true, List.mem_cons] at hx
        show x ≤ c
        rcases hx with rfl | hx
        · exact Nat.le_refl _
        · have := hmax x hx; omega
      · show (((clearM w.ws (w.top / 64) (min (c / 64 - w.top / 64) 4)).set (c / 64 % 4) (wordM (clearM w.ws (w.top / 64) (min (c / 64 - w.top / 64) 4)) c ||| 2 ^ (c % 64))).getD j 0).testBit k = true ↔ ∃ x ∈ c :: S, x / 64 % 4 = j ∧ x % 64 = k ∧ c / 64 < x / 64 + 4
        rw [mark_at _ hl2, Bool.or_eq_true, decide_eq_true_iff]
        constructor
        · rintro (hb | ⟨rfl, rfl⟩)
          · rcases clearM_at hok.2.1 (w.top / 64) (min (c / 64 - w.top / 64) 4) j hj with ⟨_, h0⟩ | ⟨hn, h0⟩
            · rw [h0, Nat.zero_testBit] at hb; cases hb
            · rw [h0] at hb
              obtain ⟨x, hx, h1, h2, h3⟩ := (hbits j k hj hk).1 hb
              refine ⟨x, List.mem_cons_of_mem _ hx, h1, h2, ?_⟩
              rcases Nat.lt_or_ge (c / 64) (x / 64 + 4) with h | h
              · exact h
              · have hxm := hmax x hx
                exact absurd (by omega : (w.top / 64 + (x / 64 + 4 - w.top / 64)) % 4 = j) (hn (x / 64 + 4 - w.top / 64) (by omega) (by omega))
          · exact ⟨c, List.mem_cons_self .., rfl, rfl, by omega⟩
        · rintro ⟨x, hx, h1, h2, h3⟩
          rcases List.mem_cons.1 hx with rfl | hx
          · exact .inr ⟨h1.symm, h2.symm⟩
          · refine .inl ?_
            have hxm := hmax x hx
            rcases clearM_at hok.2.1 (w.top / 64) (min (c / 64 - w.top / 64) 4) j hj with ⟨⟨i, hi1, hi2, hi3⟩, _⟩ | ⟨_, h0⟩
            · exfalso; omega
            · rw [h0]
              exact (hbits j k hj hk).2 ⟨x, hx, h1, h2, by omega⟩
    · have hle : c ≤ w.top := by omega
      by_cases hin : w.top / 64 ≤ c / 64 + 3
      · have hb : (wordM w.ws c).testBit (c % 64) = true ↔ c ∈ S := by
          rw [wordM, hbits (c / 64 % 4) (c % 64) (by omega) (by omega)]
          constructor
          · rintro ⟨x, hx, h1, h2, h3⟩
            rw [← bits_of h1 h2 rfl (hmax x hx) hle h3 (by omega)]
            exact hx
          · intro hx; exact ⟨c, hx, rfl, rfl, by omega⟩
        have hn : newM S w.top c = !S.contains c := by
          have : decide (c / 64 + 4 ≤ w.top / 64) = false := by simp; omega
          rw [newM, this, Bool.and_false]
          simp
        by_cases hcS : c ∈ S
        · have hch : checkM w c = false := by
            rw [checkM, hu, decide_eq_false hlt, hb.2 hcS]
            simp
          have e : acceptM w c = (w, false) := by rw [acceptM, if_neg (by simp [hch])]
          rw [e]
          refine ⟨?_, fun _ => rfl, .inr ⟨hu, hok, htS, hmax, hbits⟩, by simp⟩
          rw [hn, List.contains_eq_mem, decide_eq_true hcS]
          rfl
        · have hbf : (wordM w.ws c).testBit (c % 64) = false := by
            cases hq : (wordM w.ws c).testBit (c % 64) with
            | false => rfl
            | true => exact absurd (hb.1 hq) hcS
          have hch : checkM w c = true := by
            rw [checkM, decide_eq_true hin, hbf]
            simp
          have e : acceptM w c = (markM w c, true) := by
            rw [acceptM, if_pos hch, freshM, if_pos hu, moveM, if_neg hlt]
          rw [e]
          refine ⟨?_, (by simp), .inr ⟨hu, markM_ok hok c, List.mem_cons_of_mem _ htS, fun x hx => ?_, fun j k hj hk => ?_⟩, fun _ => by simp [markM]; omega⟩
          · rw [hn, List.contains_eq_mem, decide_eq_false hcS]
            rfl
          · simp only [if_true, List.mem_cons] at hx
            show x ≤ w.top
            rcases hx with rfl | hx
            · exact hle
            · exact hmax x hx
          · show ((w.ws.set (c / 64 % 4) (wordM w.ws c ||| 2 ^ (c % 64))).getD j 0).testBit k = true ↔ ∃ x ∈ c :: S, x / 64 % 4 = j ∧ x % 64 = k ∧ w.top / 64 < x / 64 + 4
            rw [mark_at _ hok.2.1, Bool.or_eq_true, decide_eq_true_iff, hbits j k hj hk]
            constructor
            · rintro (⟨x, hx, h⟩ | ⟨rfl, rfl⟩)
              · exact ⟨x, List.mem_cons_of_mem _ hx, h⟩
              · exact ⟨c, List.mem_cons_self .., rfl, rfl, by omega⟩
            · rintro ⟨x, hx, h⟩
              rcases List.mem_cons.1 hx with rfl | hx
              · exact .inr ⟨h.1.symm, h.2.1.symm⟩
              · exact .inl ⟨x, hx, h⟩
      · have hch : checkM w c = false := by
          rw [checkM, hu, decide_eq_false hlt, decide_eq_false hin]
          rfl
        have e : acceptM w c = (w, false) := by rw [acceptM, if_neg (by simp [hch])]
        rw [e]
        refine ⟨?_, fun _ => rfl, .inr ⟨hu, hok, htS, hmax, hbits⟩, by simp⟩
        have : decide (c / 64 + 4 ≤ w.top / 64) = true := by simp; omega
        rw [newM, this, hne]
        simp
theorem WInv.same {w w' : WinM} {S S' : List Nat} (h : WInv w S) (h' : WInv w' S') (he : ∀ x, x ∈ S ↔ x ∈ S') : w = w' := by
  rcases h with ⟨rfl, rfl⟩ | ⟨hu, hok, htS, hmax, hbits⟩
  · rcases h' with ⟨_, rfl⟩ | ⟨_, _, ht', _⟩
    · rfl
    · have := (he _).2 ht'
      simp at this
  · rcases h' with ⟨rfl, rfl⟩ | ⟨hu', hok', htS', hmax', hbits'⟩
    · have := (he _).1 htS
      simp at this
    · have ht : w.top = w'.top := Nat.le_antisymm (hmax' _ ((he _).1 htS)) (hmax _ ((he _).2 htS'))
      have hw : w.ws = w'.ws := by
        refine List.ext_getElem (hok.2.1.trans hok'.2.1.symm) fun j hj hj' => ?_
        have hj4 : j < 4 := by have := hok.2.1; omega
        have e1 : w.ws.getD j 0 = w.ws[j] := by rw [List.getD_eq_getElem?_getD, List.getElem?_eq_getElem hj]; rfl
        have e2 : w'.ws.getD j 0 = w'.ws[j] := by rw [List.getD_eq_getElem?_getD, List.getElem?_eq_getElem hj']; rfl
        refine Nat.eq_of_testBit_eq fun k => ?_
        by_cases hk : k < 64
        · rw [← e1, ← e2, Bool.eq_iff_iff, hbits j k hj4 hk, hbits' j k hj4 hk, ht]
          constructor
          · rintro ⟨x, hx, h⟩; exact ⟨x, (he x).1 hx, h⟩
          · rintro ⟨x, hx, h⟩; exact ⟨x, (he x).2 hx, h⟩
        · have h64 : (18446744073709551616 : Nat) ≤ 2 ^ k := by
            have : 2 ^ 64 ≤ 2 ^ k := Nat.pow_le_pow_right (by omega) (by omega)
            simpa using this
          rw [Nat.testBit_lt_two_pow (Nat.lt_of_lt_of_le (hok.2.2 _ (List.getElem_mem hj)) h64), Nat.testBit_lt_two_pow (Nat.lt_of_lt_of_le (hok'.2.2 _ (List.getElem_mem hj')) h64)]
      cases w; cases w'
      simp only at ht hw hu hu'
      subst ht hw
      rw [hu, hu']
end Go.Proofs.Yteidabgkidablaa
