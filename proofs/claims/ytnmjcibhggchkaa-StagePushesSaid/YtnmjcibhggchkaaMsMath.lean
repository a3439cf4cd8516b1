/-
  The mathematics of the four messages. No function of the program is named here.
-/
import Derived.Test.YtnmjcibhggchkaaWord
namespace Go.Proofs.Ytnmjcibhggchkaa
open Go.RowKit

/-- a message of a fixed size: its numbers, and the bytes of the fields behind them -/
structure MsgM where
  nums : List Nat
  bs : List UInt8
def u32c (n : Nat) : Value := .int .u32 (n : Int)
def MsgM.cells (m : MsgM) : List Value := m.nums.map u32c ++ m.bs.map u8v
/-- how many numbers, and how many bytes -/
def msN (k : Nat) : Nat := if k = 2 then 2 else 1
def msB (k : Nat) : Nat := if k = 1 then 140 else if k = 2 then 80 else 56
def msLen (k : Nat) : Nat := 4 + 4 * msN k + msB k
def MsgM.ok (k : Nat) (m : MsgM) : Prop := m.nums.length = msN k ∧ m.bs.length = msB k ∧ ∀ v ∈ m.nums, v < 4294967296
theorem MsgM.cells_length {k : Nat} {m : MsgM} (h : m.ok k) : m.cells.length = msN k + msB k := by
  rw [MsgM.cells, List.length_append, List.length_map, List.length_map, h.1, h.2.1]
theorem MsgM.one (m : MsgM) : ∀ v ∈ m.cells, v.oneCell' = true := by
  intro v hv
  rcases List.mem_append.1 hv with h | h
  · obtain ⟨_, _, rfl⟩ := List.mem_map.1 h; rfl
  · obtain ⟨_, _, rfl⟩ := List.mem_map.1 h; rfl
def msg0 (k : Nat) : MsgM := ⟨List.replicate (msN k) 0, List.replicate (msB k) 0⟩
theorem msg0_ok (k : Nat) : (msg0 k).ok k := ⟨by simp [msg0], by simp [msg0], fun v hv => by rw [List.eq_of_mem_replicate hv]; omega⟩
/-- the bytes of numbers, four each -/
def numsB (l : List Nat) : List UInt8 := l.flatMap fun n => littleL n 4
theorem numsB_length (l : List Nat) : (numsB l).length = 4 * l.length := by
  induction l with
  | nil => rfl
  | cons a l ih => rw [numsB, List.flatMap_cons, List.length_append, littleL_length, List.length_cons]; rw [numsB] at ih; omega
def msHead (k : Nat) : List UInt8 := [UInt8.ofNat k, 0, 0, 0]
/-- the bytes of a message -/
def encB (k : Nat) (m : MsgM) : List UInt8 := msHead k ++ numsB m.nums ++ m.bs
theorem encB_length {k : Nat} {m : MsgM} (h : m.ok k) : (encB k m).length = msLen k := by
  rw [encB, List.length_append, List.length_append, numsB_length, h.1, h.2.1]; rfl
/-- the kind that bytes have -/
def kindB (l : List UInt8) : Nat :=
  if l.length < 4 then 0 else if l.getD 1 0 ≠ 0 ∨ l.getD 2 0 ≠ 0 ∨ l.getD 3 0 ≠ 0 then 0 else
  let k := (l.getD 0 0).toNat
  if (k = 1 ∧ l.length = 148) ∨ (k = 2 ∧ l.length = 92) ∨ (k = 3 ∧ l.length = 64) ∨ (k = 4 ∧ 32 ≤ l.length ∧ l.length ≤ 2100) then k else 0
theorem kindB_some {l : List UInt8} (h4 : ¬ l.length < 4) (h1 : l.getD 1 0 = 0) (h2 : l.getD 2 0 = 0) (h3 : l.getD 3 0 = 0) :
    kindB l = if ((l.getD 0 0).toNat = 1 ∧ l.length = 148) ∨ ((l.getD 0 0).toNat = 2 ∧ l.length = 92) ∨ ((l.getD 0 0).toNat = 3 ∧ l.length = 64) ∨ ((l.getD 0 0).toNat = 4 ∧ 32 ≤ l.length ∧ l.length ≤ 2100) then (l.getD 0 0).toNat else 0 := by
  rw [kindB, if_neg h4, if_neg (fun h => by rcases h with h | h | h; exact h h1; exact h h2; exact h h3)]
theorem kindB_le (l : List UInt8) : kindB l ≤ 4 := by
  unfold kindB
  split
  · omega
  · split
    · omega
    · dsimp only
      split
      · next h => rcases h with h | h | h | h <;> omega
      · omega
/-- bytes of a kind have its length -/
theorem kindB_len {l : List UInt8} {k : Nat} (hk : 1 ≤ k ∧ k ≤ 3) (h : kindB l = k) : l.length = msLen k := by
  unfold kindB at h
  split at h
  · omega
  · split at h
    · omega
    · dsimp only at h
      split at h
      · next hc =>
        generalize (l.getD 0 0).toNat = x at *
        subst h
        rcases hc with ⟨rfl, hl⟩ | ⟨rfl, hl⟩ | ⟨rfl, hl⟩ | ⟨rfl, _⟩
        · rw [hl]; rfl
        · rw [hl]; rfl
        · rw [hl]; rfl
        · omega
      · omega
theorem kindB_four {l : List UInt8} (h : kindB l = 4) : 32 ≤ l.length ∧ l.length ≤ 2100 := by
  unfold kindB at h
  split at h
  · omega
  · split at h
    · omega
    · dsimp only at h
      split at h
      · next hc => omega
      · omega
/-- the message of bytes -/
def msOf (k : Nat) (l : List UInt8) : MsgM := ⟨(List.range (msN k)).map fun i => numL ((l.drop (4 + 4 * i)).take 4), l.drop (4 + 4 * msN k)⟩
def decB (k : Nat) (l : List UInt8) : MsgM × Nat := if kindB l = k then (msOf k l, 0) else (msg0 k, 4)
theorem msOf_ok {k : Nat} {l : List UInt8} (h : l.length = msLen k) : (msOf k l).ok k := by
  refine ⟨by simp [msOf], ?_, fun v hv => ?_⟩
  · show (l.drop _).length = _
    rw [List.length_drop, h]; unfold msLen; omega
  · obtain ⟨i, _, rfl⟩ := List.mem_map.1 hv
    have h1 := numL_lt ((l.drop (4 + 4 * i)).take 4)
    have h2 : ((l.drop (4 + 4 * i)).take 4).length ≤ 4 := by rw [List.length_take]; omega
    exact Nat.lt_of_lt_of_le h1 (Nat.pow_le_pow_right (by omega) h2)
theorem decB_ok {k : Nat} (hk : 1 ≤ k ∧ k ≤ 3) (l : List UInt8) : (decB k l).1.ok k ∧ (decB k l).2 ≤ 4 := by
  unfold decB
  split
  · next h => exact ⟨msOf_ok (kindB_len hk h), by simp⟩
  · exact ⟨msg0_ok k, by simp⟩
/-! what was encoded is decoded again -/
theorem encB_kind {k : Nat} (hk : 1 ≤ k ∧ k ≤ 3) {m : MsgM} (h : m.ok k) : kindB (encB k m) = k := by
  have hl := encB_length h
  have e0 : (encB k m).getD 0 0 = UInt8.ofNat k := rfl
  have e1 : (encB k m).getD 1 0 = 0 := rfl
  have e2 : (encB k m).getD 2 0 = 0 := rfl
  have e3 : (encB k m).getD 3 0 = 0 := rfl
  have h4 : ¬ (encB k m).length < 4 := by rw [hl]; unfold msLen; omega
  rw [kindB_some h4 e1 e2 e3, e0, hl]
  match k, hk with
  | 1, _ => rfl
  | 2, _ => rfl
  | 3, _ => rfl
set_option linter.unusedSimpArgs false in
theorem encB_back {k : Nat} {m : MsgM} (h : m.ok k) : msOf k (encB k m) = m := by
  obtain ⟨nums, bs⟩ := m
  obtain ⟨h1, h2, h3⟩ := h
  dsimp only at h1 h2 h3
  have hb : (encB k ⟨nums, bs⟩).drop (4 + 4 * msN k) = bs := by
    rw [encB, List.drop_append_of_le_length (by rw [List.length_append, numsB_length, h1]; show 4 + 4 * msN k ≤ 4 + 4 * msN k; omega), List.drop_of_length_le (by rw [List.length_append, numsB_length, h1]; show 4 + 4 * msN k ≤ 4 + 4 * msN k; omega), List.nil_append]
  have hd : ∀ v, v < 4294967296 → numL (littleL v 4) = v := fun v hv => by rw [numL_little]; exact Nat.mod_eq_of_lt hv
  unfold msOf
  rw [hb]
  congr 1
  have hn : msN k = 1 ∨ msN k = 2 := by unfold msN; split <;> omega
  rcases hn with hn | hn
  · rw [hn] at h1 ⊢
    match nums, h1 with
    | [a], _ =>
      have : ((encB k ⟨[a], bs⟩).drop (4 + 4 * 0)).take 4 = littleL a 4 := by
        simp [encB, msHead, numsB, littleL_length, List.take_append]
      simp only [List.range_one, List.map_cons, List.map_nil, this, hd a (h3 a (by simp))]
  · rw [hn] at h1 ⊢
    match nums, h1 with
    | [a, b], _ =>
      have e1 : ((encB k ⟨[a, b], bs⟩).drop (4 + 4 * 0)).take 4 = littleL a 4 := by
        simp [encB, msHead, numsB, littleL_length, List.take_append]
      have e2 : ((encB k ⟨[a, b], bs⟩).drop (4 + 4 * 1)).take 4 = littleL b 4 := by
        simp [encB, msHead, numsB, littleL_length, List.take_append, List.drop_append]
      have er : List.range 2 = [0, 1] := rfl
      simp only [er, List.map_cons, List.map_nil, e1, e2, hd a (h3 a (by simp)), hd b (h3 b (by simp))]
theorem decB_enc {k : Nat} (hk : 1 ≤ k ∧ k ≤ 3) {m : MsgM} (h : m.ok k) : decB k (encB k m) = (m, 0) := by
  rw [decB, if_pos (encB_kind hk h), encB_back h]
theorem decB_other {k j : Nat} (hk : 1 ≤ k ∧ k ≤ 3) (hj : j ≠ k) {m : MsgM} (h : m.ok k) : decB j (encB k m) = (msg0 j, 4) := by
  rw [decB, encB_kind hk h, if_neg (fun e => hj e.symm)]
/-! transport messages -/
structure TranM where
  r : Nat
  c : Nat
  body : List UInt8
def encT (m : TranM) : List UInt8 × Nat := if m.body.length < 16 then ([], 2) else if 2084 < m.body.length then ([], 3) else (msHead 4 ++ littleL m.r 4 ++ littleL m.c 8 ++ m.body, 0)
def decT (l : List UInt8) : TranM × Nat := if kindB l = 4 then (⟨numL ((l.drop 4).take 4), numL ((l.drop 8).take 8), l.drop 16⟩, 0) else (⟨0, 0, []⟩, 4)
theorem encT_some {m : TranM} (h1 : 16 ≤ m.body.length) (h2 : m.body.length ≤ 2084) : encT m = (msHead 4 ++ littleL m.r 4 ++ littleL m.c 8 ++ m.body, 0) := by
  rw [encT, if_neg (by omega), if_neg (by omega)]
theorem encT_length (m : TranM) : (encT m).1.length = if m.body.length < 16 then 0 else if 2084 < m.body.length then 0 else 16 + m.body.length := by
  unfold encT
  split
  · rfl
  · split
    · rfl
    · simp only [List.length_append, littleL_length]; rfl
theorem encT_kind {m : TranM} (h1 : 16 ≤ m.body.length) (h2 : m.body.length ≤ 2084) : kindB (encT m).1 = 4 := by
  have hl := encT_length m
  rw [if_neg (by omega), if_neg (by omega)] at hl
  rw [encT_some h1 h2] at hl ⊢
  dsimp only at hl ⊢
  rw [kindB_some (by omega) rfl rfl rfl, hl]
  rw [if_pos (.inr (.inr (.inr ⟨rfl, by omega, by omega⟩)))]
  rfl
set_option linter.unusedSimpArgs false in
theorem decT_enc {m : TranM} (h1 : 16 ≤ m.body.length) (h2 : m.body.length ≤ 2084) (hr : m.r < 4294967296) (hc : m.c < 18446744073709551616) : decT (encT m).1 = (m, 0) := by
  rw [decT, if_pos (encT_kind h1 h2), encT_some h1 h2]
  obtain ⟨r, c, body⟩ := m
  dsimp only at hr hc ⊢
  have e1 : ((msHead 4 ++ littleL r 4 ++ littleL c 8 ++ body).drop 4).take 4 = littleL r 4 := by
    simp [msHead, littleL_length, List.take_append]
  have e2 : ((msHead 4 ++ littleL r 4 ++ littleL c 8 ++ body).drop 8).take 8 = littleL c 8 := by
    simp [msHead, littleL_length, List.take_append, List.drop_append]
  have e3 : (msHead 4 ++ littleL r 4 ++ littleL c 8 ++ body).drop 16 = body := by
    simp [msHead, littleL_length, List.drop_append]
  rw [e1, e2, e3, numL_little, numL_little, Nat.mod_eq_of_lt (show r < 256 ^ 4 by omega), Nat.mod_eq_of_lt (show c < 256 ^ 8 by omega)]
theorem decT_ok (l : List UInt8) (hl : l.length ≤ 1000000) : (decT l).1.r < 4294967296 ∧ (decT l).1.c < 18446744073709551616 ∧ (decT l).1.body.length ≤ 1000000 ∧ (decT l).2 ≤ 4 := by
  unfold decT
  split
  · refine ⟨?_, ?_, ?_, by simp⟩
    · have h1 := numL_lt ((l.drop 4).take 4)
      exact Nat.lt_of_lt_of_le h1 (Nat.pow_le_pow_right (n := 256) (by omega) (show ((l.drop 4).take 4).length ≤ 4 by rw [List.length_take]; omega))
    · have h1 := numL_lt ((l.drop 8).take 8)
      exact Nat.lt_of_lt_of_le h1 (Nat.pow_le_pow_right (n := 256) (by omega) (show ((l.drop 8).take 8).length ≤ 8 by rw [List.length_take]; omega))
    · show (l.drop 16).length ≤ _
      rw [List.length_drop]; omega
  · exact ⟨by simp, by simp, by simp, by simp⟩
end Go.Proofs.Ytnmjcibhggchkaa
