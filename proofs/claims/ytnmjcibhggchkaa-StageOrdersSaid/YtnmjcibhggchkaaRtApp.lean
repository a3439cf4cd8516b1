/-
  Rows of objects: pieces of them, and the append of a row of objects to another one. No function of the program is named here.
-/
import Derived.Test.YtnmjcibhggchkaaObjRows
import Derived.Test.YtnmjcibhggchkaaBuildOne
import Derived.Laws.AppendOwnNone
namespace Go.Proofs.Ytnmjcibhggchkaa
open Go.RowKit

/-- the address behind i objects of k cells, as the model keeps it -/
def addrK (A : Option Addr) (i c k : Nat) : Option Addr := if c = i then A else A.map (·.add (i * k))
theorem RdRow.behind {W : World} {B k n : Nat} {A : Option Addr} {os : List (List Value)} (h : RdRow W B A k n os) (i c : Nat) (hi : i ≤ n) (hc : n ≤ c) : RdRow W B (addrK A i c k) k (n - i) (os.drop i) := by
  unfold addrK
  rcases Nat.eq_zero_or_pos (n - i) with h0 | h0
  · rw [h0, List.drop_of_length_le (by have := h.1; omega)]
    exact RdRow.nil
  · obtain ⟨b, off, rfl⟩ := h.addr (by omega)
    rw [if_neg (by omega), Option.map_some, Go.WideShapes.add_plain]
    exact h.drop i hi
theorem RdRow.src {W : World} {B k n : Nat} {os : List (List Value)} {ad : Addr} (h : RdRow W B (some ad) k n os) : ∀ j u, os.flatten[j]? = some u → W.cell? (ad.add j) = some u := by
  intro j u hj
  rcases Nat.eq_zero_or_pos n with h0 | h0
  · have : os = [] := List.eq_nil_of_length_eq_zero (by rw [h.1, h0])
    subst this
    simp at hj
  · obtain ⟨b, off, e, _, hc⟩ := h.2.2 h0
    injection e with e
    subst e
    rw [Go.WideShapes.add_plain]
    exact hc j u hj
theorem RdRow.len {W : World} {B k n : Nat} {A : Option Addr} {os : List (List Value)} (h : RdRow W B A k n os) : os.flatten.length = n * k := by rw [flat_length h.2.1, h.1]
theorem run_append_rows_none {P : Program} {w : World} (base : Nat) (t ty e : TypeId) (i : TypeInfo) (size : Nat) (ht : P.underlying t = some (.slice e)) (hi : P.info? e = some i)
    (v : Value) (n c : Nat) (xs : List Value) (hown : w.ownsRow base e size v n xs) :
    (Builtin.append_ #[t, t] ty #[v, .slice none 0 c]).run P w = .ok v w := by
  rcases hown.2 with ⟨rfl, rfl⟩ | ⟨g, cap, cur, rfl, _, _, hnc, _⟩
  · simp [Builtin.append_, run_underlying ht, sizeOf, typeInfo, hi, Builtin.lenOf, Builtin.firstCells]
  · simp [Builtin.append_, run_underlying ht, sizeOf, typeInfo, hi, Builtin.lenOf, Builtin.firstCells, hnc, storeCells]
/-- a row of objects appended to a row of the call's own -/
theorem run_append_rows {P : Program} (w : World) (base : Nat) (t ty e : TypeId) (i : TypeInfo) (z : Value) (size bytes : Nat) (ht : P.underlying t = some (.slice e)) (hi : P.info? e = some i) (hz : i.zero = some z)
    (hsize : i.size = size) (hby : i.bytes = bytes) (hzs : z.cells.size = size) (hsz : 0 < size) (v : Value) (n : Nat) (xs : List Value) (hown : w.ownsRow base e size v n xs)
    (B : Nat) (A : Option Addr) (m c : Nat) (os : List (List Value)) (hr : RdRow w B A size m os) (h1 : ∀ u ∈ os.flatten, u.oneCell' = true) (h63 : n + m ≤ maxLen) (hbytes : (n + m) * bytes ≤ 140737488355328) (hbase : base ≤ w.heap.size) :
    ∃ v' w', (Builtin.append_ #[t, t] ty #[v, .slice A m c]).run P w = .ok v' w' ∧ w'.ownsRow base e size v' (n + m) (xs ++ os.flatten) ∧ w.grownBy w' v.ownBlock ∧ (v'.ownBlock = v.ownBlock ∨ v'.ownBlock = some w.heap.size) := by
  cases A with
  | some ad =>
    obtain ⟨v', w', hrun, r1, r2, _, r4⟩ := run_append_own_at (P := P) w base t ty e i z size bytes ht hi hz hsize hby hzs hsz v n xs hown ad m c os.flatten hr.len hr.src h1 h63 hbytes hbase
    exact ⟨v', w', hrun, r1, r2, r4⟩
  | none =>
    have hm : m = 0 := by
      rcases Nat.eq_zero_or_pos m with h | h
      · exact h
      · obtain ⟨_, _, e⟩ := hr.addr h
        cases e
    subst hm
    have ho : os = [] := List.eq_nil_of_length_eq_zero hr.1
    subst ho
    exact ⟨v, w, run_append_rows_none base t ty e i size ht hi v n c xs hown, by simpa using hown, ⟨rfl, rfl, rfl, Nat.le_refl _, fun _ _ _ => rfl⟩, .inl rfl⟩
/-- a row of objects appended to one that has no room: a new row -/
theorem run_append_full {P : Program} (w : World) (t ty e : TypeId) (i : TypeInfo) (z : Value) (size bytes : Nat) (ht : P.underlying t = some (.slice e)) (hi : P.info? e = some i) (hz : i.zero = some z)
    (hsize : i.size = size) (hby : i.bytes = bytes) (hzs : z.cells.size = size) (B : Nat) (A : Option Addr) (n c : Nat) (hcn : n = 0 ∧ A = none ∧ c = 0 ∨ c = n ∧ A ≠ none) (os : List (List Value)) (hr : RdRow w B A size n os)
    (B' : Nat) (A' : Option Addr) (m c' : Nat) (hm : 0 < m) (os' : List (List Value)) (hr' : RdRow w B' A' size m os') (h63 : n + m ≤ maxLen) (hbytes : (n + m) * bytes ≤ 140737488355328) :
    ∃ v' w', (Builtin.append_ #[t, t] ty #[.slice A n c, .slice A' m c']).run P w = .ok v' w' ∧ w'.ownsRow w.heap.size e size v' (n + m) (os.flatten ++ os'.flatten) ∧ Below w.heap.size w w' := by
  subst hsize
  subst hby
  obtain ⟨b', off', rfl⟩ := hr'.addr hm
  have hlen : (os.flatten ++ os'.flatten).length = (n + m) * i.size := by rw [List.length_append, hr.len, hr'.len, Nat.add_mul]
  have grown : ∀ (old : Nat), old < n + m →
      (w.drew.alloc (.cells (os.flatten.toArray ++ os'.flatten.toArray ++ Builtin.zeroCells z.cells (grownCap w (n + m) old e - (n + m))) e)).ownsRow w.heap.size e i.size
        (.slice (some ⟨w.heap.size, 0, none⟩) (n + m) (grownCap w (n + m) old e)) (n + m) (os.flatten ++ os'.flatten) ∧
      Below w.heap.size w (w.drew.alloc (.cells (os.flatten.toArray ++ os'.flatten.toArray ++ Builtin.zeroCells z.cells (grownCap w (n + m) old e - (n + m))) e)) := by
    intro old ho
    have hge := grownCap_ge w (n + m) old e
    have hcm : grownCap w (n + m) old e ≤ maxLen := grownCap_le_maxLen w (n + m) old e h63
    refine ⟨⟨hlen, .inr ⟨w.heap.size, _, _, rfl, Nat.le_refl _, heap_alloc_new w.drew _, hge, hcm, ?_, ?_⟩⟩, (Below.refl _ _).drew.alloc (Nat.le_refl _) _⟩
    · simp only [Array.size_append, List.size_toArray, size_zeroCells, hzs, hr.len, hr'.len, ← Nat.add_mul]
      congr 1
      omega
    · simp only [Array.toList_append, List.append_assoc]
      rw [← List.append_assoc, ← hlen]
      exact List.take_left
  rcases hcn with ⟨rfl, rfl, rfl⟩ | ⟨rfl, hA⟩
  · have ho : os = [] := List.eq_nil_of_length_eq_zero hr.1
    subst ho
    have hru := run_append_nil (P := P) w t ty e i z ht hi hz ⟨b', off', none⟩ m c' os'.flatten hr'.len hr'.src hm (by simp only [maxLen] at h63; omega) (by have hb := hbytes; simp only [Nat.zero_add] at hb; omega)
    have hgr := grown 0 (by omega)
    simp only [Nat.zero_add, List.flatten_nil, List.nil_append, Array.empty_append] at hgr ⊢
    exact ⟨_, _, hru, hgr.1, hgr.2⟩
  · cases A with
    | none => exact absurd rfl hA
    | some ad =>
      have hru := run_append_grow (P := P) w t ty e i z ht hi hz ad c c os.flatten hr.len hr.src ⟨b', off', none⟩ m c' os'.flatten hr'.len hr'.src (by omega) (by simp only [maxLen] at h63; omega) (growslice_fits (by omega) hbytes)
      have hgr := grown c (by omega)
      exact ⟨_, _, hru, hgr.1, hgr.2⟩
theorem wpList_append_rows {P : Program} (w : World) {ops : Array Oper} {rest : List Oper} {o : Oper} {a : Act} {Q : Exit → Act → World → Prop} (hgd : o.guard = none) (s x : Operand) (t : TypeId)
    (ho : o.op = .call { callee := .builtin .append, args := #[s, x], argTypes := #[t, t] })
    (base : Nat) (e : TypeId) (i : TypeInfo) (z : Value) (size bytes : Nat) (ht : P.underlying t = some (.slice e)) (hi : P.info? e = some i) (hz : i.zero = some z) (hsize : i.size = size) (hby : i.bytes = bytes) (hzs : z.cells.size = size) (hsz : 0 < size)
    (v : Value) (n : Nat) (xs : List Value) (hs : a.eval s = v) (hown : w.ownsRow base e size v n xs) (B : Nat) (A : Option Addr) (m c : Nat) (os : List (List Value)) (hx : a.eval x = .slice A m c) (hr : RdRow w B A size m os) (h1 : ∀ u ∈ os.flatten, u.oneCell' = true)
    (h63 : n + m ≤ maxLen) (hbytes : (n + m) * bytes ≤ 140737488355328) (hbase : base ≤ w.heap.size)
    (h : ∀ v' w', w'.ownsRow base e size v' (n + m) (xs ++ os.flatten) → w.grownBy w' v.ownBlock → (v'.ownBlock = v.ownBlock ∨ v'.ownBlock = some w.heap.size) → wpList P ops Q rest (a.put o.dst v') w') : wpList P ops Q (o :: rest) a w := by
  refine wpList_plain hgd fun K hK => ?_
  obtain ⟨v', w', hrun, h2, h3, h4⟩ := run_append_rows (P := P) w base t o.type e i z size bytes ht hi hz hsize hby hzs hsz v n xs hown B A m c os hr h1 h63 hbytes hbase
  unfold Oper.wp execOp
  simp only [ho, resolve, invoke, builtin, Sem.run_bind, Sem.run_pure, Result.andThen_ok, List.map_toArray, List.map_cons, List.map_nil, hs, hx, hrun]
  exact hK _ _ (h v' w' h2 h3 h4)
theorem step_append_rows {P : Program} (w : World) {ops : Array Oper} {o : Oper} {a : Act} {K : Act → World → Prop} {Q : Exit → Act → World → Prop} {E : Prop} (hgd : o.guard = none) (s x : Operand) (t : TypeId)
    (ho : o.op = .call { callee := .builtin .append, args := #[s, x], argTypes := #[t, t] })
    (base : Nat) (e : TypeId) (i : TypeInfo) (z : Value) (size bytes : Nat) (ht : P.underlying t = some (.slice e)) (hi : P.info? e = some i) (hz : i.zero = some z) (hsize : i.size = size) (hby : i.bytes = bytes) (hzs : z.cells.size = size) (hsz : 0 < size)
    (v : Value) (n : Nat) (xs : List Value) (hs : a.eval s = v) (hown : w.ownsRow base e size v n xs) (B : Nat) (A : Option Addr) (m c : Nat) (os : List (List Value)) (hx : a.eval x = .slice A m c) (hr : RdRow w B A size m os) (h1 : ∀ u ∈ os.flatten, u.oneCell' = true)
    (h63 : n + m ≤ maxLen) (hbytes : (n + m) * bytes ≤ 140737488355328) (hbase : base ≤ w.heap.size)
    (h : ∀ v' w', w'.ownsRow base e size v' (n + m) (xs ++ os.flatten) → w.grownBy w' v.ownBlock → (v'.ownBlock = v.ownBlock ∨ v'.ownBlock = some w.heap.size) → K (a.put o.dst v') w') : if Region.wanted o (yielded ops a.tmps) = true then Oper.wp P o a w K Q else E := by
  rw [if_pos (by simp [Region.wanted, hgd])]
  obtain ⟨v', w', hrun, h2, h3, h4⟩ := run_append_rows (P := P) w base t o.type e i z size bytes ht hi hz hsize hby hzs hsz v n xs hown B A m c os hr h1 h63 hbytes hbase
  unfold Oper.wp execOp
  simp only [ho, resolve, invoke, builtin, Sem.run_bind, Sem.run_pure, Result.andThen_ok, List.map_toArray, List.map_cons, List.map_nil, hs, hx, hrun]
  exact h v' w' h2 h3 h4
theorem step_append_full {P : Program} (w : World) {ops : Array Oper} {o : Oper} {act : Act} {K : Act → World → Prop} {Q : Exit → Act → World → Prop} {E : Prop} (hgd : o.guard = none) (s x : Operand) (t : TypeId)
    (ho : o.op = .call { callee := .builtin .append, args := #[s, x], argTypes := #[t, t] })
    (e : TypeId) (i : TypeInfo) (z : Value) (size bytes : Nat) (ht : P.underlying t = some (.slice e)) (hi : P.info? e = some i) (hz : i.zero = some z) (hsize : i.size = size) (hby : i.bytes = bytes) (hzs : z.cells.size = size)
    (B : Nat) (A : Option Addr) (n c : Nat) (hs : act.eval s = .slice A n c) (hcn : n = 0 ∧ A = none ∧ c = 0 ∨ c = n ∧ A ≠ none) (os : List (List Value)) (hr : RdRow w B A size n os)
    (B' : Nat) (A' : Option Addr) (m c' : Nat) (hx : act.eval x = .slice A' m c') (hm : 0 < m) (os' : List (List Value)) (hr' : RdRow w B' A' size m os') (h63 : n + m ≤ maxLen) (hbytes : (n + m) * bytes ≤ 140737488355328)
    (h : ∀ v' w', w'.ownsRow w.heap.size e size v' (n + m) (os.flatten ++ os'.flatten) → Below w.heap.size w w' → K (act.put o.dst v') w') : if Region.wanted o (yielded ops act.tmps) = true then Oper.wp P o act w K Q else E := by
  rw [if_pos (by simp [Region.wanted, hgd])]
  obtain ⟨v', w', hrun, h2, h3⟩ := run_append_full (P := P) w t o.type e i z size bytes ht hi hz hsize hby hzs B A n c hcn os hr B' A' m c' hm os' hr' h63 hbytes
  unfold Oper.wp execOp
  simp only [ho, resolve, invoke, builtin, Sem.run_bind, Sem.run_pure, Result.andThen_ok, List.map_toArray, List.map_cons, List.map_nil, hs, hx, hrun]
  exact h v' w' h2 h3
end Go.Proofs.Ytnmjcibhggchkaa
