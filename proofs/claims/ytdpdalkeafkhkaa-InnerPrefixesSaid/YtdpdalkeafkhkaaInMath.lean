/-
  The mathematics of the packets in the tunnel: addresses, prefixes, headers. No function of the program is named here.
-/
import Derived.Test.YtdpdalkeafkhkaaWord
namespace Go.Proofs.Ytdpdalkeafkhkaa
open Go.RowKit

/-- an address: of version 6 or not, and its sixteen bytes -/
structure AddrM where
  six : Bool
  ip : List UInt8
def AddrM.ok (a : AddrM) : Prop := a.ip.length = 16
def AddrM.cells (a : AddrM) : List Value := .bool a.six :: a.ip.map u8v
theorem AddrM.cells_length {a : AddrM} (h : a.ok) : a.cells.length = 17 := by
  rw [AddrM.cells, List.length_cons, List.length_map, h]
def addr0 : AddrM := ⟨false, List.replicate 16 0⟩
theorem addr0_ok : addr0.ok := by simp [AddrM.ok, addr0]
/-- what a packet shows -/
structure InfoM where
  source : AddrM
  dest : AddrM
  len : Nat
def InfoM.ok (i : InfoM) : Prop := i.source.ok ∧ i.dest.ok ∧ i.len ≤ 1000000
def InfoM.cells (i : InfoM) : List Value := i.source.cells ++ (i.dest.cells ++ [.int .i64 (i.len : Int)])
theorem InfoM.cells_length {i : InfoM} (h : i.ok) : i.cells.length = 35 := by
  rw [InfoM.cells, List.length_append, List.length_append, AddrM.cells_length h.1, AddrM.cells_length h.2.1]; rfl
def info0 : InfoM := ⟨addr0, addr0, 0⟩
theorem info0_ok : info0.ok := ⟨addr0_ok, addr0_ok, by simp [info0]⟩
/-- the address of 4 or 16 bytes -/
def addrB (l : List UInt8) : AddrM := ⟨l.length == 16, putL (List.replicate 16 0) 0 l⟩
theorem addrB_ok (l : List UInt8) (h : l.length ≤ 16) : (addrB l).ok := by
  simp only [AddrM.ok, addrB, putL, List.length_append, List.length_take, List.length_drop, List.length_replicate]; omega
def cutB (l : List UInt8) (i j : Nat) : List UInt8 := (l.drop i).take (j - i)
theorem cutB_length (l : List UInt8) (i j : Nat) (h : j ≤ l.length) (h2 : i ≤ j) : (cutB l i j).length = j - i := by
  rw [cutB, List.length_take, List.length_drop]; omega
def twoB (l : List UInt8) (i : Nat) : Nat := 256 * (l.getD i 0).toNat + (l.getD (i + 1) 0).toNat
theorem twoB_lt (l : List UInt8) (i : Nat) : twoB l i < 65536 := by
  have h1 := (l.getD i 0).toNat_lt
  have h2 := (l.getD (i + 1) 0).toNat_lt
  unfold twoB
  omega
def infoB (l : List UInt8) (six : Bool) : InfoM := if six then ⟨addrB (cutB l 8 24), addrB (cutB l 24 40), 40 + twoB l 4⟩ else ⟨addrB (cutB l 12 16), addrB (cutB l 16 20), twoB l 2⟩
/-- what Check returns -/
def checkB (l : List UInt8) : InfoM × Nat :=
  if l.length = 0 then (info0, 2) else if 2016 < l.length then (info0, 3) else
  let v := (l.getD 0 0).toNat / 16
  if v ≠ 4 ∧ v ≠ 6 then (info0, 4) else
  if l.length < 20 ∨ v = 6 ∧ l.length < 40 then (info0, 2) else
  let i := infoB l (v == 6)
  let h := (l.getD 0 0).toNat % 16
  if v = 4 ∧ (h < 5 ∨ i.len < 4 * h) then (info0, 5) else
  if l.length < i.len then (info0, 2) else
  if 2000 < i.len then (info0, 3) else (i, 0)
theorem infoB_ok (l : List UInt8) (six : Bool) (h : 20 ≤ l.length) (h6 : six = true → 40 ≤ l.length) : (infoB l six).ok := by
  have t4 := twoB_lt l 4
  have t2 := twoB_lt l 2
  unfold infoB
  cases six with
  | true =>
    have := h6 rfl
    exact ⟨addrB_ok _ (by rw [cutB_length _ _ _ (by omega) (by omega)]; omega), addrB_ok _ (by rw [cutB_length _ _ _ (by omega) (by omega)]; omega), by simp only [if_true]; omega⟩
  | false => exact ⟨addrB_ok _ (by rw [cutB_length _ _ _ (by omega) (by omega)]; omega), addrB_ok _ (by rw [cutB_length _ _ _ (by omega) (by omega)]; omega), by simp; omega⟩
theorem checkB_ok (l : List UInt8) : (checkB l).1.ok ∧ (checkB l).2 ≤ 5 ∧ ((checkB l).2 = 0 → (checkB l).1.len ≤ l.length ∧ (checkB l).1.len ≤ 2000) := by
  unfold checkB
  split
  · exact ⟨info0_ok, by simp, by simp⟩
  split
  · exact ⟨info0_ok, by simp, by simp⟩
  dsimp only
  split
  · exact ⟨info0_ok, by simp, by simp⟩
  split
  · exact ⟨info0_ok, by simp, by simp⟩
  rename_i hs
  split
  · exact ⟨info0_ok, by simp, by simp⟩
  split
  · exact ⟨info0_ok, by simp, by simp⟩
  split
  · exact ⟨info0_ok, by simp, by simp⟩
  refine ⟨infoB_ok l _ (Nat.le_of_not_lt fun h => hs (.inl h)) (fun e => ?_), by simp, fun _ => ⟨Nat.le_of_not_lt (by assumption), Nat.le_of_not_lt (by assumption)⟩⟩
  have e := beq_iff_eq.1 e
  exact Nat.le_of_not_lt fun hlt => hs (.inr ⟨e, hlt⟩)
def padB (l : List UInt8) : List UInt8 := l ++ List.replicate ((16 - l.length % 16) % 16) 0
def trimB (l : List UInt8) : List UInt8 × Nat := if (checkB l).2 = 0 then (l.take (checkB l).1.len, 0) else ([], (checkB l).2)
/-- prefixes -/
def soundM (a : AddrM) : Bool := a.six || (a.ip.drop 4).all (· == 0)
def widthM (a : AddrM) : Nat := if a.six then 128 else 32
def bitM (ip : List UInt8) (i : Nat) : Nat := (ip.getD (i / 8) 0).toNat / 2 ^ (7 - i % 8) % 2
def validM (a : AddrM) (bits : Int) : Bool := soundM a && (decide (0 ≤ bits) && (decide (bits ≤ (widthM a : Int)) && (List.range 128).all fun i => decide ((i : Int) < bits) || bitM a.ip i == 0))
def containsM (a : AddrM) (bits : Int) (x : AddrM) : Bool := validM a bits && (soundM x && (x.six == a.six && (List.range 128).all fun i => decide (bits ≤ (i : Int)) || bitM x.ip i == bitM a.ip i))
def lessM (a b : AddrM) : Bool := if a.six = b.six then Op.bytesLess a.ip b.ip else !a.six

/-! what Check returns, version by version -/
theorem checkB_none (l : List UInt8) (h : l.length = 0) : checkB l = (info0, 2) := by rw [checkB, if_pos h]
theorem checkB_long (l : List UInt8) (h0 : l.length ≠ 0) (h : 2016 < l.length) : checkB l = (info0, 3) := by rw [checkB, if_neg h0, if_pos h]
theorem checkB_type (l : List UInt8) (h0 : l.length ≠ 0) (h1 : ¬2016 < l.length) (h4 : (l.getD 0 0).toNat / 16 ≠ 4) (h6 : (l.getD 0 0).toNat / 16 ≠ 6) : checkB l = (info0, 4) := by
  rw [checkB, if_neg h0, if_neg h1]
  exact if_pos ⟨h4, h6⟩
theorem checkB_four (l : List UInt8) (h0 : l.length ≠ 0) (h1 : ¬2016 < l.length) (hv : (l.getD 0 0).toNat / 16 = 4) :
    checkB l = if l.length < 20 then (info0, 2) else if (l.getD 0 0).toNat % 16 < 5 ∨ twoB l 2 < 4 * ((l.getD 0 0).toNat % 16) then (info0, 5) else if l.length < twoB l 2 then (info0, 2) else if 2000 < twoB l 2 then (info0, 3) else (infoB l false, 0) := by
  rw [checkB, if_neg h0, if_neg h1]
  dsimp only
  rw [hv, if_neg (by omega)]
  by_cases h20 : l.length < 20
  · rw [if_pos (.inl h20), if_pos h20]
  · rw [if_neg (by omega), if_neg h20]
    show (if 4 = 4 ∧ _ then _ else if l.length < (infoB l false).len then _ else if 2000 < (infoB l false).len then _ else _) = _
    by_cases h5 : (l.getD 0 0).toNat % 16 < 5 ∨ twoB l 2 < 4 * ((l.getD 0 0).toNat % 16)
    · rw [if_pos ⟨rfl, h5⟩, if_pos h5]
    · rw [if_neg (fun h => h5 h.2), if_neg h5]; rfl
theorem checkB_six (l : List UInt8) (h0 : l.length ≠ 0) (h1 : ¬2016 < l.length) (hv : (l.getD 0 0).toNat / 16 = 6) :
    checkB l = if l.length < 40 then (info0, 2) else if l.length < 40 + twoB l 4 then (info0, 2) else if 2000 < 40 + twoB l 4 then (info0, 3) else (infoB l true, 0) := by
  rw [checkB, if_neg h0, if_neg h1]
  dsimp only
  rw [hv, if_neg (by omega)]
  by_cases h40 : l.length < 40
  · rw [if_pos (.inr ⟨rfl, h40⟩), if_pos h40]
  · rw [if_neg (by omega), if_neg h40]
    show (if 6 = 4 ∧ _ then _ else if l.length < (infoB l true).len then _ else if 2000 < (infoB l true).len then _ else _) = _
    rw [if_neg (by omega)]
    rfl
theorem twoB_cut (l : List UInt8) (i : Nat) (_h : i + 2 ≤ l.length) : twoB (cutB l i (i + 2)) 0 = twoB l i := by
  have e : i + 2 - i = 2 := by omega
  unfold twoB cutB
  rw [e]
  simp
theorem InfoM.len_cell (i : InfoM) (h : i.ok) : i.cells[34]? = some (.int .i64 (i.len : Int)) := by
  rw [InfoM.cells, List.getElem?_append_right (by rw [AddrM.cells_length h.1]; omega), List.getElem?_append_right (by rw [AddrM.cells_length h.1, AddrM.cells_length h.2.1]; omega), AddrM.cells_length h.1, AddrM.cells_length h.2.1]
  rfl
end Go.Proofs.Ytdpdalkeafkhkaa
