/-
  A map from numbers to bools that a call makes, as the list of the numbers that it holds. No function of the program is named here.
-/
import Derived.Test.YteidabgkidablaaLow
import Derived.Maps.OwnOps
import Derived.Maps.OwnSet
namespace Go.Proofs.Yteidabgkidablaa
open Go.RowKit Go.Maps

/-- what the map reads as -/
def seenV (S : List Nat) : DataW Unit := S.foldr (fun (c : Nat) (D : DataW Unit) => DataW.put D (.int .u64 (c : Int)) (.lit (.bool true))) (.map [])
theorem seenV_isMap : ∀ S : List Nat, IsMap (seenV S)
  | [] => isMap_empty
  | _ :: S => (seenV_isMap S).put _ _
theorem seenV_at (c : Nat) : ∀ S : List Nat, (seenV S).atKey (.int .u64 (c : Int)) (.lit (.bool false)) = .lit (.bool (S.contains c))
  | [] => rfl
  | d :: S => by
    show ((seenV S).put (.int .u64 (d : Int)) (.lit (.bool true))).atKey _ _ = _
    by_cases h : c = d
    · subst h
      rw [atKey_put_same (seenV_isMap S) (show WideAt.IsKeyLit (.int .u64 (c : Int)) from trivial)]
      simp
    · rw [atKey_put_other (by intro e; injection e with _ e; exact h (by omega)), seenV_at c S]
      simp [h]
theorem has_size {D : DataW Unit} {k : Lit} (h : Maps.has D k = true) : 0 < Maps.size D := by
  cases D with
  | map es =>
    cases es with
    | nil => simp [Maps.has] at h
    | cons e es => show 0 < (e :: es).length; simp
  | _ => simp [Maps.has] at h
theorem seenV_size (S : List Nat) : decide (Maps.size (seenV S) > 0) = !S.isEmpty := by
  cases S with
  | nil => rfl
  | cons d S =>
    have h := has_size (has_put_same (seenV_isMap S) (k := .int .u64 (d : Int)) (show WideAt.IsKeyLit (.int .u64 (d : Int)) from trivial) (.lit (.bool true)))
    rw [decide_eq_true (show Maps.size (seenV (d :: S)) > 0 from h)]
    rfl
/-- block b is the map of the numbers of S -/
def SetAt (P : Program) (k e : TypeId) (W : World) (b n : Nat) (S : List Nat) : Prop := W.ownsMap P k (plainElem P e) b n (seenV S)
def seenL (P : Program) (k e : TypeId) (b n : Nat) (S : List Nat) : Low := ⟨fun W => SetAt P k e W b n S, fun W W' hb h => by
  obtain ⟨es, clock, h1, h2⟩ := h
  exact ⟨es, clock, (hb.block b (Array.getElem?_eq_some_iff.1 h1).1).trans h1, h2⟩⟩
theorem SetAt.lt {P : Program} {k e : TypeId} {W : World} {b n : Nat} {S : List Nat} (h : SetAt P k e W b n S) : b < W.heap.size := World.ownsMap.lt h
theorem plainElem_bool_inv {P : Program} {e : TypeId} (he : P.underlying e = some .bool) {v : Value} {z : DataW Unit × List MemPlace} (h : plainElem P e v = some z) : ∃ x, v = .bool x ∧ z = (.lit (.bool x), []) := by
  unfold plainElem at h
  rw [he] at h
  cases v <;> simp at h
  subst h
  exact ⟨_, rfl, rfl⟩
theorem wf_u64 {c : Nat} (h : c < 18446744073709551616) : (Lit.int .u64 (c : Int)).wf = true := by
  simp [Lit.wf, IntKind.min, IntKind.max, IntKind.signed, IntKind.bits]
  omega
theorem wpList_lookup_set {P : Program} {w : World} {ops : Array Oper} {rest : List Oper} {o : Oper} {a : Act} {Q : Exit → Act → World → Prop}
    (hg : o.guard = none) (m x : Operand) (t : TypeId) (hop : o.op = Op.lookup t m x false)
    (k e : TypeId) (hk : P.underlying k = some (.int .u64)) (ht : P.underlying t = some (.map k e)) (he : P.underlying e = some .bool) (hz : ∀ w, (zeroValue e).run P w = .ok (.bool false) w) (b n : Nat) (S : List Nat)
    (hm : a.eval m = .map (some b)) (hown : SetAt P k e w b n S) (c : Nat) (hc : c < 18446744073709551616) (hx : a.eval x = .int .u64 (c : Int)) (y : Bool) (hy : S.contains c = y)
    (h : wpList P ops Q rest (a.put o.dst (.bool y)) w) : wpList P ops Q (o :: rest) a w := by
  refine wpList_plain hg fun K' hK' => ?_
  obtain ⟨v, ps, hrun, hv⟩ := World.ownsMap.lookup hown (int_keyed hk) ht (hz w) (plainElem_bool he false) (keyOf_int_mk hk (wf_u64 hc))
  obtain ⟨z, rfl, hz2⟩ := plainElem_bool_inv he hv
  rw [seenV_at, hy] at hz2
  simp only [Prod.mk.injEq, DataW.lit.injEq, Lit.bool.injEq] at hz2
  obtain ⟨rfl, _⟩ := hz2
  unfold Oper.wp
  simp [execOp, hop, hm, hx, hrun, Result.andThen]
  exact hK' _ _ h
theorem wpList_update_set {P : Program} {w : World} {ops : Array Oper} {rest : List Oper} {o : Oper} {a : Act} {Q : Exit → Act → World → Prop}
    (hg : o.guard = none) (m x v : Operand) (t : TypeId) (hop : o.op = Op.mapUpdate t m x v)
    (k e : TypeId) (hk : P.underlying k = some (.int .u64)) (ht : P.underlying t = some (.map k e)) (he : P.underlying e = some .bool) (b n : Nat) (S : List Nat)
    (hm : a.eval m = .map (some b)) (hown : SetAt P k e w b n S) (hn : n < maxLen) (c : Nat) (hc : c < 18446744073709551616) (hx : a.eval x = .int .u64 (c : Int)) (hv : a.eval v = .bool true)
    (h : ∀ w', SetAt P k e w' b (n + 1) (c :: S) → w.grownBy w' (some b) → wpList P ops Q rest (a.put o.dst undef) w') : wpList P ops Q (o :: rest) a w :=
  wpList_mapUpdate_own w hg m x v t hop k e (int_keyed hk) ht (plainElem P e) b n (seenV S) hm hown hn _ _ (.int .u64 (c : Int)) hx hv (keyOf_int_mk hk (wf_u64 hc)) (.lit (.bool true)) [] (plainElem_bool he true) h
theorem wpList_len_set {P : Program} {w : World} {ops : Array Oper} {rest : List Oper} {o : Oper} {a : Act} {Q : Exit → Act → World → Prop}
    (hg : o.guard = none) (m : Operand) (t : TypeId) (hop : o.op = Op.call { callee := Callee.builtin Builtin.len, args := #[m], argTypes := #[t] })
    (k e : TypeId) (ht : P.underlying t = some (.map k e)) (b n : Nat) (S : List Nat) (hm : a.eval m = .map (some b)) (hown : SetAt P k e w b n S) (z : Int) (hz : ((Maps.size (seenV S) : Nat) : Int) = z)
    (h : wpList P ops Q rest (a.put o.dst (.int .i64 z)) w) : wpList P ops Q (o :: rest) a w := by
  subst hz
  exact wpList_len_own w hg m t hop k e ht (plainElem P e) b n (seenV S) hm hown h
end Go.Proofs.Yteidabgkidablaa
