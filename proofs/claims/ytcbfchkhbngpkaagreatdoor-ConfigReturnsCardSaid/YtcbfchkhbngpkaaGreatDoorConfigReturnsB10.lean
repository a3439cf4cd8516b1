/-
  A row of peers of the call's own whose prefixes lie elsewhere. The contract of the reference's Decimal. Words on rows that a call makes, and pieces of texts. A hexadecimal digit cut from a text. The contract of the reference's group. The contract of the reference's FormatAddr. The contracts of the reference's FormatEndpoint and FormatPrefix. A struct that is built under a guard. The contract of the reference's right. Keys as cells. The contract of the reference's Validate of configurations. The contract of burrowlaw13's cut. Zero objects that are appended to a row of the call's own. The contract of burrowlaw13's spoilt. The contract of the choices' Config. What config's Format gives, as texts, and the contract of its entry. The contract of config's formatPrefixes. No statement is proved here.
-/
import Derived.Laws.Concat
import Derived.Deep.DeepCutAuto
import Derived.RegionTactic
import Derived.BigRegion
import Derived.Outline
import Derived.Lib.SmallJoins
import Derived.Lib.Strings
import Derived.Deep.CutBlock
import Derived.Test.YtcbfchkhbngpkaaGreatDoorConfigReturnsB9
namespace Go.Proofs.YtcbfchkhbngpkaaGreatDoor
open Go.RowKit

theorem setL_left {α : Type} (a t : List α) (f : Nat) (xs : List α) (h : f + xs.length ≤ a.length) : setL (a ++ t) f xs = setL a f xs ++ t := by
  rw [setL, setL, List.take_append_of_le_length (by omega), List.drop_append_of_le_length h]
  simp
theorem setL_right {α : Type} (a t : List α) (q : Nat) (xs : List α) : setL (a ++ t) (a.length + q) xs = a ++ setL t q xs := by
  rw [setL, setL, List.take_length_add_append, Nat.add_assoc, List.drop_length_add_append]
  simp
theorem set_setL {α : Type} (l : List α) (i : Nat) (v : α) (h : i < l.length) : l.set i v = setL l i [v] := by
  rw [setL, List.set_eq_take_append_cons_drop, if_pos h]
  simp
theorem flat_part {k : Nat} {rest : List Value} : ∀ {cs : List (List Value)}, (∀ o ∈ cs, o.length = k) → ∀ (j : Nat) (o : List Value), cs[j]? = some o → ∀ (f : Nat) (xs : List Value), f + xs.length ≤ k → setL (cs.flatten ++ rest) (j * k + f) xs = (cs.set j (setL o f xs)).flatten ++ rest
  | [], _, j, o, hj, _, _, _ => by simp at hj
  | a :: r, h, 0, o, hj, f, xs, hf => by
    simp only [List.getElem?_cons_zero, Option.some.injEq] at hj
    subst hj
    have ha := h a (List.mem_cons_self ..)
    rw [Nat.zero_mul, Nat.zero_add, List.set_cons_zero, List.flatten_cons, List.flatten_cons, List.append_assoc, List.append_assoc, setL_left _ _ _ _ (by omega)]
  | a :: r, h, j + 1, o, hj, f, xs, hf => by
    have ha := h a (List.mem_cons_self ..)
    have ih := flat_part (rest := rest) (fun x hx => h x (List.mem_cons_of_mem _ hx)) j o (by simpa using hj) f xs hf
    rw [List.set_cons_succ, List.flatten_cons, List.flatten_cons, List.append_assoc, List.append_assoc, ← ih, Nat.succ_mul, show j * k + k + f = a.length + (j * k + f) by omega, setL_right]
theorem peersV_set (ps : List PeerM) (vs : List Value) (j : Nat) (p : PeerM) (x : Value) : peersV (ps.set j p) (vs.set j x) = (peersV ps vs).set j (p.cells x) := by
  induction ps generalizing vs j with
  | nil => simp [peersV]
  | cons a r ih =>
    cases vs with
    | nil => cases j <;> simp [peersV]
    | cons b s =>
      cases j with
      | zero => simp [peersV]
      | succ j => exact congrArg (a.cells b :: ·) (ih s j)
/-- the prefixes of a peer lie in memory, and in none of the blocks of no -/
def PfO (W : World) (no : List Nat) (p : PeerM) (x : Value) : Prop :=
  ∃ A c, x = .slice A p.al.length c ∧ p.al.length ≤ c ∧ c ≤ maxLen ∧ PfRd W W.heap.size A p.al.length p.al ∧ (0 < p.al.length → ∀ b off, A = some ⟨b, off, none⟩ → b ∉ no)
theorem PfRd.keptO {W W' : World} {A : Option Addr} {n : Nat} {l : List (AddrM × Int)} (h : PfRd W W.heap.size A n l) (hs : W.heap.size ≤ W'.heap.size) (hk : 0 < n → ∀ b off, A = some ⟨b, off, none⟩ → b < W.heap.size → W'.heap[b]? = W.heap[b]?) : PfRd W' W'.heap.size A n l :=
  ⟨⟨h.1.1, h.1.2.1, fun h0 => by
    obtain ⟨b, off, e, hlt, hc⟩ := h.1.2.2 h0
    exact ⟨b, off, e, by omega, fun j v hv => (World.cell?_of_block (hk h0 b off e hlt)).trans (hc j v hv)⟩⟩, h.2⟩
theorem PfO.grown {W W' : World} {no : List Nat} {k : Nat} {p : PeerM} {x : Value} (h : PfO W no p x) (hg : W.grownBy W' (some k)) (hk : k ∈ no) : PfO W' no p x := by
  obtain ⟨A, c, e, h1, h2, h3, h4⟩ := h
  exact ⟨A, c, e, h1, h2, h3.keptO hg.size (fun h0 b off hA hb => hg.block b hb (fun e2 => by injection e2 with e2; exact h4 h0 b off hA (e2 ▸ hk))), h4⟩
theorem PfO.less {W : World} {no no' : List Nat} {p : PeerM} {x : Value} (h : PfO W no p x) (hs : ∀ k ∈ no', k ∈ no) : PfO W no' p x := by
  obtain ⟨A, c, e, h1, h2, h3, h4⟩ := h
  exact ⟨A, c, e, h1, h2, h3, fun h0 b off hA hm => h4 h0 b off hA (hs b hm)⟩
theorem PfO.below {W W' : World} {no : List Nat} {p : PeerM} {x : Value} (h : PfO W no p x) (hb : Below W.heap.size W W') : PfO W' no p x := by
  obtain ⟨A, c, e, h1, h2, h3, h4⟩ := h
  exact ⟨A, c, e, h1, h2, h3.keptO hb.size (fun _ b _ _ hlt => hb.block b hlt), h4⟩
/-- the row is made anew -/
theorem PfO.fresh {W : World} {no : List Nat} {p : PeerM} {x : Value} (h : PfO W no p x) : PfO W (W.heap.size :: no) p x := by
  obtain ⟨A, c, e, h1, h2, h3, h4⟩ := h
  refine ⟨A, c, e, h1, h2, h3, fun h0 b off hA hm => ?_⟩
  rcases List.mem_cons.1 hm with he | hm
  · obtain ⟨b', off', e', hlt, _⟩ := h3.1.2.2 h0
    rw [hA] at e'
    simp only [Option.some.injEq, Addr.mk.injEq] at e'
    omega
  · exact h4 h0 b off hA hm
/-- a part of the prefixes -/
theorem PfO.ahead {W : World} {no : List Nat} {p : PeerM} {A : Option Addr} {c : Nat} (h : PfO W no p (.slice A p.al.length c)) (m : Nat) (hm : m ≤ p.al.length) : PfO W no { p with al := p.al.take m } (.slice (addrK A 0 c 18) m c) := by
  obtain ⟨A', c', e, h1, h2, h3, h4⟩ := h
  injection e with eA en ec
  subst eA ec
  have hl : (p.al.take m).length = m := by rw [List.length_take]; omega
  refine ⟨addrK A 0 c 18, c, by rw [hl], by simp only [hl]; omega, h2, ?_, fun h0 b off hA => ?_⟩
  · simp only [hl]
    refine ⟨?_, fun q hq => h3.2 q (List.mem_of_mem_take hq)⟩
    have := h3.1.ahead m c hm
    rwa [show pfsV (p.al.take m) = (pfsV p.al).take m from by rw [pfsV, pfsV, List.map_take]]
  · simp only [hl] at h0
    obtain ⟨b', off', e', _⟩ := h3.1.2.2 (by omega)
    subst e'
    rw [addrK_zero_some] at hA
    simp only [Option.some.injEq, Addr.mk.injEq] at hA
    exact hA.1 ▸ h4 (by omega) b' off' rfl
/-- the row's own block -/
structure RowAt (base : Nat) (no : List Nat) (W : World) (g c : Nat) (rest : List Value) (ps : List PeerM) (vs : List Value) : Prop where
  low : base ≤ g
  le : ps.length ≤ c
  max : c ≤ maxLen
  len : vs.length = ps.length
  size : ps.length * 85 + rest.length = c * 85
  blk : Blk W g 57 ((peersV ps vs).flatten ++ rest)
  ok : ∀ p ∈ ps, p.ok
  pf : ∀ (i : Nat) (p : PeerM) (x : Value), ps[i]? = some p → vs[i]? = some x → PfO W (g :: no) p x
def RowOk (base : Nat) (no : List Nat) (W : World) (v : Value) (ps : List PeerM) : Prop :=
  (ps = [] ∧ v = .slice none 0 0) ∨ ∃ g c rest vs, v = .slice (some ⟨g, 0, none⟩) ps.length c ∧ RowAt base no W g c rest ps vs
theorem peersV_cells {ps : List PeerM} {vs : List Value} (hl : vs.length = ps.length) (hok : ∀ p ∈ ps, p.ok) : ∀ o ∈ peersV ps vs, o.length = 85 := fun o ho => by
  obtain ⟨i, hi, rfl⟩ := List.getElem_of_mem ho
  rw [peersV_len ps vs hl] at hi
  have e := peersV_at (List.getElem?_eq_getElem hi) (List.getElem?_eq_getElem (by omega : i < vs.length))
  rw [List.getElem?_eq_getElem (by rw [peersV_len ps vs hl]; exact hi)] at e
  injection e with e
  rw [e]
  exact PeerM.cells_length (hok _ (List.getElem_mem hi)) _
section
variable {base g c : Nat} {no : List Nat} {W W' : World} {rest : List Value} {ps : List PeerM} {vs : List Value} {v : Value}
theorem RowAt.cells (h : RowAt base no W g c rest ps vs) : ∀ o ∈ peersV ps vs, o.length = 85 := peersV_cells h.len h.ok
theorem RowAt.at (h : RowAt base no W g c rest ps vs) {i : Nat} {p : PeerM} {x : Value} (hp : ps[i]? = some p) (hx : vs[i]? = some x) : At W g (i * 85) (p.cells x) := blk_at h.blk h.cells (peersV_at hp hx)
theorem RowAt.below (h : RowAt base no W g c rest ps vs) (hb : Below W.heap.size W W') : RowAt base no W' g c rest ps vs :=
  ⟨h.low, h.le, h.max, h.len, h.size, by have := h.blk; unfold Blk at this ⊢; rw [hb.block g h.blk.lt]; exact this, h.ok, fun i p x hp hx => (h.pf i p x hp hx).below hb⟩
/-- a part of one peer is written -/
theorem RowAt.put (h : RowAt base no W g c rest ps vs) {j : Nat} {p p' : PeerM} {x x' : Value} (hp : ps[j]? = some p) (hx : vs[j]? = some x) (f : Nat) (xs : List Value) (hf : f + xs.length ≤ 85) (hs : setL (p.cells x) f xs = p'.cells x') (hok : p'.ok) (hpf : PfO W (g :: no) p' x') (hg : W.grownBy W' (some g)) (hb : Blk W' g 57 (setL ((peersV ps vs).flatten ++ rest) (j * 85 + f) xs)) : RowAt base no W' g c rest (ps.set j p') (vs.set j x') := by
  refine ⟨h.low, by rw [List.length_set]; exact h.le, h.max, by rw [List.length_set, List.length_set]; exact h.len, by rw [List.length_set]; exact h.size, ?_, fun q hq => ?_, fun i q y hq hy => ?_⟩
  · rw [flat_part h.cells j _ (peersV_at hp hx) f xs hf, hs] at hb
    rw [peersV_set]
    exact hb
  · rcases List.mem_or_eq_of_mem_set hq with hq | rfl
    · exact h.ok q hq
    · exact hok
  · by_cases hij : i = j
    · subst hij
      rw [List.getElem?_set_self (List.getElem?_eq_some_iff.1 hp).1] at hq
      rw [List.getElem?_set_self (List.getElem?_eq_some_iff.1 hx).1] at hy
      injection hq with hq
      injection hy with hy
      subst hq hy
      exact hpf.grown hg (List.mem_cons_self ..)
    · rw [List.getElem?_set_ne (Ne.symm hij)] at hq hy
      exact (h.pf i q y hq hy).grown hg (List.mem_cons_self ..)
theorem RowAt.cell (h : RowAt base no W g c rest ps vs) {j : Nat} {p p' : PeerM} {x x' : Value} (hp : ps[j]? = some p) (hx : vs[j]? = some x) (f : Nat) (u : Value) (hf : f < 85) (hs : (p.cells x).set f u = p'.cells x') (hok : p'.ok) (hpf : PfO W (g :: no) p' x') : RowAt base no (W.setCell ⟨g, j * 85 + f, none⟩ u) g c rest (ps.set j p') (vs.set j x') := by
  have hj := (List.getElem?_eq_some_iff.1 hp).1
  have hlen := flat_length h.cells
  rw [peersV_len ps vs h.len] at hlen
  have hjm : (j + 1) * 85 ≤ ps.length * 85 := Nat.mul_le_mul_right 85 hj
  have hb := h.blk.set_ (j * 85 + f) u
  rw [set_setL _ _ _ (by rw [List.length_append, hlen]; omega)] at hb
  exact h.put hp hx f [u] (by simp; omega) (by rw [← set_setL _ _ _ (by rw [PeerM.cells_length (h.ok p (List.mem_of_getElem? hp))]; exact hf)]; exact hs) hok hpf (grown_cell W g (j * 85 + f) u) hb
/-- it can be read -/
theorem RowAt.rd (h : RowAt base no W g c rest ps vs) : PeRd W W.heap.size (some ⟨g, 0, none⟩) ps.length ps :=
  ⟨vs, h.len, blk_row h.blk h.cells (peersV_len ps vs h.len), h.ok, fun i p x hp hx => by
    obtain ⟨A, d, e, h1, h2, h3, _⟩ := h.pf i p x hp hx
    exact ⟨A, d, e, h1, h2, h3⟩⟩
theorem RowAt.own (h : RowAt base no W g c rest ps vs) : W.ownsRow base 57 85 (.slice (some ⟨g, 0, none⟩) ps.length c) ps.length (peersV ps vs).flatten := by
  have hlen := flat_length h.cells
  rw [peersV_len ps vs h.len] at hlen
  have hs := h.size
  exact ⟨hlen, .inr ⟨g, c, _, rfl, h.low, h.blk, h.le, h.max, by simp only [List.size_toArray, List.length_append]; omega, by simp only []; rw [List.take_append_of_le_length (by omega), List.take_of_length_le (by omega)]⟩⟩
theorem RowOk.own (h : RowOk base no W v ps) : ∃ vs, vs.length = ps.length ∧ W.ownsRow base 57 85 v ps.length (peersV ps vs).flatten ∧ (∀ p ∈ ps, p.ok) ∧ ∀ (i : Nat) (p : PeerM) (x : Value), ps[i]? = some p → vs[i]? = some x → PfO W (v.ownBlock.toList ++ no) p x := by
  rcases h with ⟨rfl, rfl⟩ | ⟨g, d, rest', vs', rfl, h⟩
  · exact ⟨[], rfl, World.ownsRow_nil .., by simp, by simp⟩
  · exact ⟨vs', h.len, h.own, h.ok, h.pf⟩
theorem RowOk.of_own (hl : vs.length = ps.length) (ho : W.ownsRow base 57 85 v ps.length (peersV ps vs).flatten) (hok : ∀ p ∈ ps, p.ok) (hpf : ∀ (i : Nat) (p : PeerM) (x : Value), ps[i]? = some p → vs[i]? = some x → PfO W (v.ownBlock.toList ++ no) p x) : RowOk base no W v ps := by
  rcases ho.2 with ⟨rfl, h0⟩ | ⟨g, cap, cur, rfl, hbg, hg, h1, h2, h3, h4⟩
  · exact .inl ⟨List.length_eq_zero_iff.1 h0, rfl⟩
  · have hx := ho.1
    have hm : ps.length * 85 ≤ cap * 85 := Nat.mul_le_mul_right 85 h1
    refine .inr ⟨g, cap, cur.toList.drop (ps.length * 85), vs, rfl, hbg, h1, h2, hl, by
      have hc : cur.toList.length = cur.size := Array.length_toList
      rw [List.length_drop]
      omega, ?_, hok, hpf⟩
    unfold Blk
    rw [← h4, List.take_append_drop]
    simpa using hg
theorem RowOk.below (h : RowOk base no W v ps) (hb : Below W.heap.size W W') : RowOk base no W' v ps := by
  rcases h with h | ⟨g, d, rest', vs', e, h⟩
  · exact .inl h
  · exact .inr ⟨g, d, rest', vs', e, h.below hb⟩
theorem RowOk.rd (h : RowOk base no W v ps) : ∃ A d, v = .slice A ps.length d ∧ ps.length ≤ d ∧ PeRd W W.heap.size A ps.length ps := by
  rcases h with ⟨rfl, rfl⟩ | ⟨g, d, rest', vs', rfl, h⟩
  · exact ⟨none, 0, rfl, Nat.le_refl _, PeRd.nil⟩
  · exact ⟨_, d, rfl, h.le, h.rd⟩
theorem RowOk.mono {b : Nat} (h : RowOk base no W v ps) (hb : b ≤ base) : RowOk b no W v ps := by
  rcases h with h | ⟨g, d, rest', vs', e, h⟩
  · exact .inl h
  · exact .inr ⟨g, d, rest', vs', e, Nat.le_trans hb h.low, h.le, h.max, h.len, h.size, h.blk, h.ok, h.pf⟩
/-- a block that is not of the row is written -/
theorem RowOk.other (h : RowOk base no W v ps) {k : Nat} (hg : W.grownBy W' (some k)) (hk : k ∈ no) (hb : k < base) : RowOk base no W' v ps := by
  rcases h with h | ⟨g, d, rest', vs', e, h⟩
  · exact .inl h
  · refine .inr ⟨g, d, rest', vs', e, h.low, h.le, h.max, h.len, h.size, ?_, h.ok, fun i p x hp hx => (h.pf i p x hp hx).grown hg (List.mem_cons_of_mem _ hk)⟩
    have hl := h.low
    unfold Blk
    rw [hg.block g h.blk.lt (fun e2 => by injection e2 with e2; omega)]
    exact h.blk
theorem RowOk.less {no' : List Nat} (h : RowOk base no W v ps) (hs : ∀ k ∈ no', k ∈ no) : RowOk base no' W v ps := by
  rcases h with h | ⟨g, d, rest', vs', e, h⟩
  · exact .inl h
  · exact .inr ⟨g, d, rest', vs', e, h.low, h.le, h.max, h.len, h.size, h.blk, h.ok, fun i p x hp hx => (h.pf i p x hp hx).less fun k hk => by
      rcases List.mem_cons.1 hk with rfl | hk
      · exact List.mem_cons_self ..
      · exact List.mem_cons_of_mem _ (hs k hk)⟩
end
end Go.Proofs.YtcbfchkhbngpkaaGreatDoor
namespace Go.Proofs.YtcbfchkhbngpkaaGreatDoor
open Go.RowKit

end Go.Proofs.YtcbfchkhbngpkaaGreatDoor
namespace Go.Proofs.YtcbfchkhbngpkaaGreatDoor
open Go.RowKit

theorem text_cut (S : ByteArray) (l : List UInt8) (hat : ∀ i (h : i < S.size), S[i] = l.getD i 0) (i : Nat) (hi : i < S.size) : S.extract i (i + 1) = ⟨#[l.getD i 0]⟩ := by
  apply Go.WideShapes.bytes_inj
  rw [Lib.extract_data]
  have hi' : i < S.data.toList.length := by rw [Array.length_toList]; exact hi
  have h := hat i hi
  rw [← h]
  show ((S.data.toList.drop i).take (i + 1 - i)) = [S.data[i]'hi]
  rw [show i + 1 - i = 1 from by omega, List.drop_eq_getElem_cons hi']
  rfl
end Go.Proofs.YtcbfchkhbngpkaaGreatDoor
namespace Go.Proofs.YtcbfchkhbngpkaaGreatDoor
open Go.RowKit

end Go.Proofs.YtcbfchkhbngpkaaGreatDoor
namespace Go.Proofs.YtcbfchkhbngpkaaGreatDoor
open Go.RowKit

end Go.Proofs.YtcbfchkhbngpkaaGreatDoor
namespace Go.Proofs.YtcbfchkhbngpkaaGreatDoor
open Go.RowKit

end Go.Proofs.YtcbfchkhbngpkaaGreatDoor
namespace Go.Proofs.YtcbfchkhbngpkaaGreatDoor
open Go.RowKit

end Go.Proofs.YtcbfchkhbngpkaaGreatDoor
namespace Go.Proofs.YtcbfchkhbngpkaaGreatDoor
open Go.RowKit

end Go.Proofs.YtcbfchkhbngpkaaGreatDoor
namespace Go.Proofs.YtcbfchkhbngpkaaGreatDoor
open Go.RowKit

end Go.Proofs.YtcbfchkhbngpkaaGreatDoor
namespace Go.Proofs.YtcbfchkhbngpkaaGreatDoor
open Go.RowKit

theorem key_cellsOf (k : List UInt8) (h : k.length = 32) : (Tryz.prog.info? 24).map (·.size) = some (k.map u8v).length := by
  rw [List.length_map, h]; kernel_rfl
end Go.Proofs.YtcbfchkhbngpkaaGreatDoor
namespace Go.Proofs.YtcbfchkhbngpkaaGreatDoor
open Go.RowKit

theorem peer_pubB {w : World} {g : Nat} {p : PeerM} {v : Value} (h : At w g 0 (p.cells v)) : At w g 0 (p.pub.map u8v) := fun j u hj => h j u (by rw [PeerM.cells, List.getElem?_append_left (List.getElem?_eq_some_iff.1 hj).1]; exact hj)
theorem conf_portA {w : World} {g : Nat} {x : ConfM} {v : Value} (h : At w g 0 (x.cells v)) (hx : x.ok) : w.cell? ⟨g, 32, none⟩ = some (.int .i64 x.port) := by
  have h2 := h 32 (.int .i64 x.port) (by rw [ConfM.cells, List.getElem?_append_right (by rw [List.length_map, hx.1]; decide), List.length_map, hx.1]; rfl)
  simpa using h2
theorem conf_peersA {w : World} {g : Nat} {x : ConfM} {v : Value} (h : At w g 0 (x.cells v)) (hx : x.ok) : w.cell? ⟨g, 33, none⟩ = some v := by
  have h2 := h 33 v (by rw [ConfM.cells, List.getElem?_append_right (by rw [List.length_map, hx.1]; decide), List.length_map, hx.1]; rfl)
  simpa using h2
end Go.Proofs.YtcbfchkhbngpkaaGreatDoor
namespace Go.Proofs.YtcbfchkhbngpkaaGreatDoor
open Go.RowKit

end Go.Proofs.YtcbfchkhbngpkaaGreatDoor
namespace Go.Proofs.YtcbfchkhbngpkaaGreatDoor
open Go.RowKit

end Go.Proofs.YtcbfchkhbngpkaaGreatDoor
namespace Go.Proofs.YtcbfchkhbngpkaaGreatDoor
open Go.RowKit

theorem RowAt.total {base g c : Nat} {no : List Nat} {W : World} {rest : List Value} {ps : List PeerM} {vs : List Value} (h : RowAt base no W g c rest ps vs) : ((peersV ps vs).flatten ++ rest).length = c * 85 := by
  have hlen := flat_length h.cells
  rw [peersV_len ps vs h.len] at hlen
  have := h.size
  rw [List.length_append]
  omega
theorem peersV_zeros {ps : List PeerM} {vs : List Value} (hl : vs.length = ps.length) (k : Nat) : (peersV (ps ++ List.replicate k peer0) (vs ++ List.replicate k (.slice none 0 0))).flatten = (peersV ps vs).flatten ++ (List.replicate k (peer0.cells (.slice none 0 0))).flatten := by
  rw [peersV, List.zipWith_append hl.symm, List.flatten_append]
  congr 2
  simp
/-- zero peers are appended -/
theorem RowAt.zeros {base g c : Nat} {no : List Nat} {W W' : World} {rest : List Value} {ps : List PeerM} {vs : List Value} {v : Value} {k n : Nat} (h : RowAt base no W g c rest ps vs) (hn : ps.length = n) (ho : W'.ownsRow base 57 85 v (n + k) ((peersV ps vs).flatten ++ (List.replicate k (peer0.cells (.slice none 0 0))).flatten)) (hg : W.grownBy W' (some g)) (hv : v.ownBlock = some g ∨ v.ownBlock = some W.heap.size) : RowOk base no W' v (ps ++ List.replicate k peer0) := by
  subst hn
  refine .of_own (vs := vs ++ List.replicate k (.slice none 0 0)) (by simp [h.len]) (by rw [peersV_zeros h.len, List.length_append, List.length_replicate]; exact ho) (fun p hp => ?_) fun i p x hp hx => ?_
  · rcases List.mem_append.1 hp with hp | hp
    · exact h.ok p hp
    · rw [List.eq_of_mem_replicate hp]; exact peer0_ok
  · by_cases hi : i < ps.length
    · rw [List.getElem?_append_left hi] at hp
      rw [List.getElem?_append_left (by rw [h.len]; exact hi)] at hx
      have h1 := ((h.pf i p x hp hx).fresh).grown hg (List.mem_cons_of_mem _ (List.mem_cons_self ..))
      refine h1.less fun q hq => ?_
      rcases List.mem_append.1 hq with hq | hq
      · rcases hv with e | e <;> rw [e] at hq <;> simp at hq <;> subst hq <;> simp
      · exact List.mem_cons_of_mem _ (List.mem_cons_of_mem _ hq)
    · rw [List.getElem?_append_right (by omega)] at hp
      rw [List.getElem?_append_right (by rw [h.len]; omega)] at hx
      have e1 := List.eq_of_mem_replicate (List.mem_of_getElem? hp)
      have e2 := List.eq_of_mem_replicate (List.mem_of_getElem? hx)
      subst e1 e2
      exact ⟨none, 0, rfl, by simp [peer0], Nat.zero_le _, PfRd.nil, fun h0 => by simp [peer0] at h0⟩
end Go.Proofs.YtcbfchkhbngpkaaGreatDoor
namespace Go.Proofs.YtcbfchkhbngpkaaGreatDoor
open Go.RowKit

set_option maxRecDepth 100000 in
set_option maxHeartbeats 8000000 in
theorem caseConfig_any (g : Nat) (A : Option Addr) (n c : Nat) (l : List UInt8) (B : Nat) (p m : Nat) (hm : m ≤ 8) (w : World) (hc : CodesAt w g A n c l B p) :
    Calls Tryz.prog 6 #[.pointer (some ⟨g, 0, none⟩), .int .i64 (m : Int)] w fun e w' => ∃ (x : ConfM) (A' : Option Addr) (cap : Nat), e = .returned (.agg (x.cells (.slice A' x.peers.length cap)).toArray) ∧ x.ok ∧ validE x = 0 ∧ x.peers.length ≤ m ∧ (∀ p ∈ x.peers, p.al.length ≤ 2) ∧ x.peers.length ≤ cap ∧ PeRd w' w'.heap.size A' x.peers.length x.peers ∧ Below g w w' := by
  have HGL := Lib.hid hc.lt
  have HM := Lib.hid hm
  have HK32 := Lib.hid (pickB_length l p 32)
  obtain ⟨zc, hzc⟩ : ∃ z : Array Value, #[.int .u8 0, .int .u8 0, .int .u8 0, .int .u8 0, .int .u8 0, .int .u8 0, .int .u8 0, .int .u8 0, .int .u8 0, .int .u8 0, .int .u8 0, .int .u8 0, .int .u8 0, .int .u8 0, .int .u8 0, .int .u8 0, .int .u8 0, .int .u8 0, .int .u8 0, .int .u8 0, .int .u8 0, .int .u8 0, .int .u8 0, .int .u8 0, .int .u8 0, .int .u8 0, .int .u8 0, .int .u8 0, .int .u8 0, .int .u8 0, .int .u8 0, .int .u8 0, .int .i64 0, .slice none 0 0] = z := ⟨_, rfl⟩
  have HZC := Lib.hid (show zc.toList.length = 34 from by rw [← hzc]; rfl)
  have hba := (Below.refl w.heap.size w).alloc (Nat.le_refl w.heap.size) (.cells zc 27)
  have HD := Lib.hid ((HeapD.nil w.heap.size w).alloc (Nat.le_refl _) 27 zc zc.toList (by simp))
  have HC := Lib.hid (hc.below hba)
  have HB := Lib.hid (below_more (Below.refl g w) hc.lt hba)
  have d9 : IntKind.i64.wrap ((m : Int) + 1) = (m : Int) + 1 := by rw [IntKind.wrap_i64]; omega
  clear hc hba hm
  go_enter Tryz.func6, Tryz.ntmps6
  go_upto_region 1 with fail
  generalize w.alloc (.cells zc 27) = w1 at HD HC HB ⊢
  go_wp2_with fail
  refine (caseKey_any g A n c l B p w1 HC.out).mono ?_
  rintro e w2 ⟨rfl, hc2, hg2⟩
  replace HD := Lib.hid (HD.out.other (.of_grown hg2) HGL.out)
  replace HB := Lib.hid (below_codes HB.out HGL.out hg2)
  replace HC := Lib.hid hc2
  clear hc2 hg2
  go_wp2_with fail
  refine (caseBig_any g A n c l B _ 65536 (by omega) (by omega) w2 HC.out).mono ?_
  rintro e w3 ⟨rfl, hc2, hg2⟩
  replace HD := Lib.hid (HD.out.other (.of_grown hg2) HGL.out)
  replace HB := Lib.hid (below_codes HB.out HGL.out hg2)
  replace HC := Lib.hid hc2
  clear hc2 hg2
  obtain ⟨q, hq⟩ : ∃ q, bigV l (nextP l p 256) % 65536 = q := ⟨_, rfl⟩
  have HQ := Lib.hid (show q ≤ 65535 from by have := Nat.mod_lt (bigV l (nextP l p 256)) (show 0 < 65536 by omega); omega)
  rw [hq]
  clear hq
  obtain ⟨kc, hkc⟩ : ∃ z, ((pickB l p 32).map u8v).toArray = z := ⟨_, rfl⟩
  have hbt := conf_built (pickB l p 32) HK32.out (q : Int)
  obtain ⟨cc, hcc⟩ : ∃ z, (ConfM.cells ⟨pickB l p 32, (q : Int), []⟩ (.slice none 0 0)).toArray = z := ⟨_, rfl⟩
  rw [hkc, hcc] at hbt
  rw [hkc]
  have HBT := Lib.hid hbt
  have HCC := Lib.hid hcc
  have HCK := Lib.hid (show (ConfM.mk (pickB l p 32) (q : Int) []).ok from ⟨HK32.out, (show inI64 (q : Int) from ⟨by omega, by have := HQ.out; omega⟩), by simp⟩)
  clear hkc hbt hcc
  have HNB := Lib.hid (HD.out.alloc HB.out.size 27 zc zc.toList (by simp))
  have HBA := Lib.hid ((Below.refl w3.heap.size w3).alloc (Nat.le_refl w3.heap.size) (.cells zc 27))
  go_upto_region 2 with (first | (refine wpList_build_as rfl 27 [(0, .tmp 11), (1, .tmp 13)] rfl cc ?_ ?_; exact HBT.out) | ((with_reducible refine at_op (.store 27 (.tmp 5) (.tmp 14)) rfl ?_); refine wpList_store_obj rfl 27 (.tmp 5) (.tmp 14) rfl w3.heap.size 0 (ConfM.cells ⟨pickB l p 32, (q : Int), []⟩ (.slice none 0 0)) rfl (by show Value.agg cc = _; rw [HCC.out]) 27 zc.toList (HNB.out.blk 0 rfl) (conf_cellsOf _ HCK.out _) (by rw [ConfM.cells_length HCK.out, HZC.out]; decide) (conf_one _ none 0 0) ?_; intro w4 hb4 hg4))
  rw [setL_all zc.toList _ (by rw [ConfM.cells_length HCK.out, HZC.out])] at hb4
  replace HD := Lib.hid (HNB.out.put (Nat.le_trans HB.out.size HBA.out.size) (.of_grown hg4) hb4)
  have hbl4 : Below w3.heap.size w3 w4 := HBA.out.grown hg4 (by simp) (by intro k hk; injection hk with hk; omega)
  replace HB := Lib.hid (below_more HB.out HGL.out hbl4)
  replace HC := Lib.hid (HC.out.below hbl4)
  have HG5 := Lib.hid (show w.heap.size ≤ w3.heap.size from by have := HNB.out.at 0 rfl (k := w3.heap.size) (by simp [blkD]); omega)
  generalize w3.heap.size = g5 at HD HG5 ⊢
  clear hbl4 hb4 hg4 HNB HBA HBT HCC
  have hpx := casePrefixesC_any g A n c l B _ 6 (by omega) w4 HC.out
  go_wp2_with fail
  refine hpx.mono ?_
  rintro e w5 ⟨rl, A2, c2, p5, rfl, hpf, hab, hc5, hg5, hl6, hnc2, hnd, hcm⟩
  have hd5 := HD.out.madeG (.of_grown hg5) HGL.out HB.out.size (pfD w5.heap.size A2 rl.length rl) (fun k hk => by
    obtain ⟨h0, ad, e1, e2⟩ := pfD_mem hk
    obtain ⟨b, off, e3⟩ := hpf.1.addr h0
    have := hpf.1.2.2 h0
    obtain ⟨b', off', e4, hlt, _⟩ := this
    rw [e1] at e4
    injection e4 with e4
    have h5 := hab ad e1
    rw [← e2]
    refine ⟨h5, ?_⟩
    rw [e4]
    exact hlt) (pfD_nodup _ _ _ _) hpf
  have HGC := Lib.hid (fun (i : Nat) (hi : i ≤ m) => GoodC.nil m rl hnd (fun q hq => by
    obtain ⟨i, rfl⟩ := hcm q hq
    have hle := codePb_le l i
    exact ⟨⟨codeM_ok l i, (show inI64 (codePb l i : Int) from ⟨by omega, by omega⟩)⟩, codeM_valid l i⟩) hl6 hi)
  replace HB := Lib.hid (below_codes HB.out HGL.out hg5)
  have hd6 := hd5.made HB.out.size (Below.refl _ _) (peersD w.heap.size [] (.slice none 0 0) []) (by simp [peersD]) (by simp [peersD]) (PeersAt.nil _ _)
  replace HD := Lib.hid ((hd6.pull 2 rfl).pull 1 rfl)
  replace HC := Lib.hid hc5
  have HNC := Lib.hid hnc2
  clear hc5 hd5 hd6 hg5 hpx hpf hab hl6 hnd hcm hnc2
  have hnx := HC.out.callNext (m + 1) (by have := HM.out; omega)
  rw [show ((m + 1 : Nat) : Int) = (m : Int) + 1 from by omega] at hnx
  have HNL := Lib.hid (nextV_lt l p5 (m + 1) (by omega))
  go_wp2_with fail
  refine hnx.mono ?_
  rintro e w6 ⟨rfl, hc2, hg2⟩
  replace HD := Lib.hid (HD.out.other (.of_grown hg2) HGL.out)
  replace HB := Lib.hid (below_codes HB.out HGL.out hg2)
  obtain ⟨i0, hi0⟩ : ∃ i, nextV l p5 (m + 1) = i := ⟨_, rfl⟩
  rw [hi0] at HNL ⊢
  have HST := Lib.hid (show CnfAt w g A n c l B m w.heap.size g5 (pickB l p 32) (q : Int) i0 A2 rl.length c2 w6 from ⟨⟨_, _, [], _, [], rl, rfl, hc2, HGC.out i0 (by have := HNL.out; omega), by rw [hzc]; exact HD.out⟩, HB.out, HNC.out⟩)
  have HI0 := Lib.hid (show i0 ≤ m from by have := HNL.out; omega)
  clear hnx hc2 hg2 hi0 HNL HGC HD HC HB HNC d9
  go_wp2_with fail
  go_loopw [6, 7] (fun v6 v7 wr => ∃ (i : Nat) (A2 : Option Addr) (n2 c2 : Nat), i ≤ m ∧ v6 = .slice A2 n2 c2 ∧ v7 = .int .i64 (i : Int) ∧ CnfAt w g A n c l B m w.heap.size g5 (pickB l p 32) (q : Int) i A2 n2 c2 wr) (fun _ v7 _ => (intOf v7).toNat)
  case atStart => exact ⟨i0, A2, rl.length, c2, HI0.out, rfl, rfl, HST.out⟩
  case round =>
    clear HST HI0
    obtain ⟨i, A2, n2, c2, him, rfl, rfl, hst⟩ := hrel
    obtain ⟨⟨p1, B0, ps, v, Bs, rl, hrl, hc, hgd, hd⟩, hb, hcap⟩ := hst
    have HC := Lib.hid hc
    have HGD := Lib.hid hgd
    have HD := Lib.hid hd
    have HB := Lib.hid hb
    have HCAP := Lib.hid (And.intro hrl hcap)
    rw [hzc] at HD
    clear hc hgd hd hb hrl hcap
    by_cases hi : 0 < i
    · have d1 : decide ((i : Int) > 0) = true := by simp; omega
      have d2 : decide (0 < i) = true := decide_eq_true hi
      obtain ⟨x1, hx1⟩ : ∃ x, 10 * i = x := ⟨_, rfl⟩
      have hm8 := HM.out
      have e1 : (10 : Int) * (i : Int) = (x1 : Int) := by omega
      have w1' : IntKind.i64.wrap (x1 : Int) = (x1 : Int) := by rw [IntKind.wrap_i64]; omega
      have w2' : IntKind.u8.wrap (x1 : Int) = (x1 : Int) := by rw [IntKind.wrap_u8]; omega
      have hnx := HC.out.callNext 256 (by omega)
      have hnl := nextV_lt l p1 256 (by omega)
      obtain ⟨x2, hx2⟩ : ∃ x, nextV l p1 256 = x := ⟨_, rfl⟩
      rw [hx2] at hnx hnl
      have w3' : IntKind.u8.wrap (x2 : Int) = (x2 : Int) := by rw [IntKind.wrap_u8]; omega
      have hu1 : (UInt8.ofNat x1).toNat = x1 := by rw [UInt8.toNat_ofNat']; omega
      have hu2 : (UInt8.ofNat x2).toNat = x2 := by rw [UInt8.toNat_ofNat']; omega
      obtain ⟨k0, hk0⟩ : ∃ k : List UInt8, UInt8.ofNat x1 :: UInt8.ofNat x2 :: List.replicate 30 0 = k := ⟨_, rfl⟩
      have HK0 := Lib.hid (show k0.length = 32 ∧ k0 = UInt8.ofNat (10 * i) :: UInt8.ofNat x2 :: List.replicate 30 0 from by rw [← hk0, hx1]; exact ⟨rfl, rfl⟩)
      have hkv : (k0.map u8v).toArray = #[.int .u8 (x1 : Int), .int .u8 (x2 : Int), .int .u8 0, .int .u8 0, .int .u8 0, .int .u8 0, .int .u8 0, .int .u8 0, .int .u8 0, .int .u8 0, .int .u8 0, .int .u8 0, .int .u8 0, .int .u8 0, .int .u8 0, .int .u8 0, .int .u8 0, .int .u8 0, .int .u8 0, .int .u8 0, .int .u8 0, .int .u8 0, .int .u8 0, .int .u8 0, .int .u8 0, .int .u8 0, .int .u8 0, .int .u8 0, .int .u8 0, .int .u8 0, .int .u8 0, .int .u8 0] := by
        rw [← hk0, List.map_cons, List.map_cons, u8v, u8v, hu1, hu2]; rfl
      obtain ⟨kc2, hkc2⟩ : ∃ z, (k0.map u8v).toArray = z := ⟨_, rfl⟩
      have HBK := Lib.hid (show Tryz.prog.built 24 [(0, .int .u8 (x1 : Int)), (1, .int .u8 (x2 : Int))] = some kc2 from by rw [← hkc2, hkv]; kernel_rfl)
      have hbp := peer_built k0 HK0.out.1
      rw [hkc2] at hbp
      obtain ⟨oc, hoc⟩ : ∃ z, (PeerM.cells { peer0 with pub := k0 } (.slice none 0 0)).toArray = z := ⟨_, rfl⟩
      rw [hoc] at hbp
      have HBP := Lib.hid hbp
      have HOC := Lib.hid hoc
      have HKC2 := Lib.hid hkc2
      have HP0 := Lib.hid (show ({ peer0 with pub := k0 } : PeerM).ok from ⟨HK0.out.1, peer0_ok.2⟩)
      obtain ⟨zs, hzs⟩ : ∃ z : List Value, (#[.int .u8 0, .int .u8 0, .int .u8 0, .int .u8 0, .int .u8 0, .int .u8 0, .int .u8 0, .int .u8 0, .int .u8 0, .int .u8 0, .int .u8 0, .int .u8 0, .int .u8 0, .int .u8 0, .int .u8 0, .int .u8 0, .int .u8 0, .int .u8 0, .int .u8 0, .int .u8 0, .int .u8 0, .int .u8 0, .int .u8 0, .int .u8 0, .int .u8 0, .int .u8 0, .int .u8 0, .int .u8 0, .int .u8 0, .int .u8 0, .int .u8 0, .int .u8 0, .int .u8 0, .int .u8 0, .int .u8 0, .int .u8 0, .int .u8 0, .int .u8 0, .int .u8 0, .int .u8 0, .int .u8 0, .int .u8 0, .int .u8 0, .int .u8 0, .int .u8 0, .int .u8 0, .int .u8 0, .int .u8 0, .int .u8 0, .int .u8 0, .int .u8 0, .int .u8 0, .int .u8 0, .int .u8 0, .int .u8 0, .int .u8 0, .int .u8 0, .int .u8 0, .int .u8 0, .int .u8 0, .int .u8 0, .int .u8 0, .int .u8 0, .int .u8 0, .bool false, .bool false, .int .u8 0, .int .u8 0, .int .u8 0, .int .u8 0, .int .u8 0, .int .u8 0, .int .u8 0, .int .u8 0, .int .u8 0, .int .u8 0, .int .u8 0, .int .u8 0, .int .u8 0, .int .u8 0, .int .u8 0, .int .u8 0, .int .i64 0, .int .i64 0, .slice none 0 0] : Array Value).toList = z := ⟨_, rfl⟩
      have HZP := Lib.hid (show zs.length = 85 from by rw [← hzs]; rfl)
      have HZE := Lib.hid (show (#[.int .u8 0, .int .u8 0, .int .u8 0, .int .u8 0, .int .u8 0, .int .u8 0, .int .u8 0, .int .u8 0, .int .u8 0, .int .u8 0, .int .u8 0, .int .u8 0, .int .u8 0, .int .u8 0, .int .u8 0, .int .u8 0, .int .u8 0, .int .u8 0, .int .u8 0, .int .u8 0, .int .u8 0, .int .u8 0, .int .u8 0, .int .u8 0, .int .u8 0, .int .u8 0, .int .u8 0, .int .u8 0, .int .u8 0, .int .u8 0, .int .u8 0, .int .u8 0, .int .u8 0, .int .u8 0, .int .u8 0, .int .u8 0, .int .u8 0, .int .u8 0, .int .u8 0, .int .u8 0, .int .u8 0, .int .u8 0, .int .u8 0, .int .u8 0, .int .u8 0, .int .u8 0, .int .u8 0, .int .u8 0, .int .u8 0, .int .u8 0, .int .u8 0, .int .u8 0, .int .u8 0, .int .u8 0, .int .u8 0, .int .u8 0, .int .u8 0, .int .u8 0, .int .u8 0, .int .u8 0, .int .u8 0, .int .u8 0, .int .u8 0, .int .u8 0, .bool false, .bool false, .int .u8 0, .int .u8 0, .int .u8 0, .int .u8 0, .int .u8 0, .int .u8 0, .int .u8 0, .int .u8 0, .int .u8 0, .int .u8 0, .int .u8 0, .int .u8 0, .int .u8 0, .int .u8 0, .int .u8 0, .int .u8 0, .int .i64 0, .int .i64 0, .slice none 0 0] : Array Value) = zs.toArray from by rw [← hzs])
      have HNX := Lib.hid hnx
      clear hx1 hx2 hu1 hu2 hk0 hkv hkc2 hbp hoc hnx hnl hm8
      go_upto_region 6 with fail
      clear d1 d2
      go_wp2_with fail
      refine HNX.out.mono ?_
      rintro e w7 ⟨rfl, hc2, hg2⟩
      replace HD := Lib.hid (HD.out.other (.of_grown hg2) HGL.out)
      replace HB := Lib.hid (below_codes HB.out HGL.out hg2)
      replace HC := Lib.hid hc2
      clear hc2 hg2 HNX
      have HNB := Lib.hid (HD.out.alloc HB.out.size 57 #[.int .u8 0, .int .u8 0, .int .u8 0, .int .u8 0, .int .u8 0, .int .u8 0, .int .u8 0, .int .u8 0, .int .u8 0, .int .u8 0, .int .u8 0, .int .u8 0, .int .u8 0, .int .u8 0, .int .u8 0, .int .u8 0, .int .u8 0, .int .u8 0, .int .u8 0, .int .u8 0, .int .u8 0, .int .u8 0, .int .u8 0, .int .u8 0, .int .u8 0, .int .u8 0, .int .u8 0, .int .u8 0, .int .u8 0, .int .u8 0, .int .u8 0, .int .u8 0, .int .u8 0, .int .u8 0, .int .u8 0, .int .u8 0, .int .u8 0, .int .u8 0, .int .u8 0, .int .u8 0, .int .u8 0, .int .u8 0, .int .u8 0, .int .u8 0, .int .u8 0, .int .u8 0, .int .u8 0, .int .u8 0, .int .u8 0, .int .u8 0, .int .u8 0, .int .u8 0, .int .u8 0, .int .u8 0, .int .u8 0, .int .u8 0, .int .u8 0, .int .u8 0, .int .u8 0, .int .u8 0, .int .u8 0, .int .u8 0, .int .u8 0, .int .u8 0, .bool false, .bool false, .int .u8 0, .int .u8 0, .int .u8 0, .int .u8 0, .int .u8 0, .int .u8 0, .int .u8 0, .int .u8 0, .int .u8 0, .int .u8 0, .int .u8 0, .int .u8 0, .int .u8 0, .int .u8 0, .int .u8 0, .int .u8 0, .int .i64 0, .int .i64 0, .slice none 0 0] zs HZE.out)
      have HBA := Lib.hid ((Below.refl w7.heap.size w7).alloc (Nat.le_refl w7.heap.size) (.cells #[.int .u8 0, .int .u8 0, .int .u8 0, .int .u8 0, .int .u8 0, .int .u8 0, .int .u8 0, .int .u8 0, .int .u8 0, .int .u8 0, .int .u8 0, .int .u8 0, .int .u8 0, .int .u8 0, .int .u8 0, .int .u8 0, .int .u8 0, .int .u8 0, .int .u8 0, .int .u8 0, .int .u8 0, .int .u8 0, .int .u8 0, .int .u8 0, .int .u8 0, .int .u8 0, .int .u8 0, .int .u8 0, .int .u8 0, .int .u8 0, .int .u8 0, .int .u8 0, .int .u8 0, .int .u8 0, .int .u8 0, .int .u8 0, .int .u8 0, .int .u8 0, .int .u8 0, .int .u8 0, .int .u8 0, .int .u8 0, .int .u8 0, .int .u8 0, .int .u8 0, .int .u8 0, .int .u8 0, .int .u8 0, .int .u8 0, .int .u8 0, .int .u8 0, .int .u8 0, .int .u8 0, .int .u8 0, .int .u8 0, .int .u8 0, .int .u8 0, .int .u8 0, .int .u8 0, .int .u8 0, .int .u8 0, .int .u8 0, .int .u8 0, .int .u8 0, .bool false, .bool false, .int .u8 0, .int .u8 0, .int .u8 0, .int .u8 0, .int .u8 0, .int .u8 0, .int .u8 0, .int .u8 0, .int .u8 0, .int .u8 0, .int .u8 0, .int .u8 0, .int .u8 0, .int .u8 0, .int .u8 0, .int .u8 0, .int .i64 0, .int .i64 0, .slice none 0 0] 57))
      clear hzs
      go_upto_region 7 with (first | (refine wpList_build_as rfl 24 [(0, .tmp 27), (1, .tmp 30)] rfl kc2 ?_ ?_; exact HBK.out) | (refine wpList_build_as rfl 57 [(0, .tmp 31)] rfl oc ?_ ?_; exact HBP.out) | ((with_reducible refine at_op (.store 57 (.tmp 8) (.tmp 32)) rfl ?_); refine wpList_store_obj rfl 57 (.tmp 8) (.tmp 32) rfl w7.heap.size 0 (PeerM.cells { peer0 with pub := k0 } (.slice none 0 0)) rfl (by show Value.agg oc = _; rw [HOC.out]) 57 zs (HNB.out.blk 0 rfl) (peer_cellsOf _ HP0.out _) (by rw [HZP.out, PeerM.cells_length HP0.out]; decide) (peer_one _ none 0 0) ?_; intro w8 hb8 hg8))
      rw [setL_all zs _ (by rw [PeerM.cells_length HP0.out, HZP.out])] at hb8
      have hd8 := HNB.out.put (Nat.le_trans HB.out.size HBA.out.size) (.of_grown hg8) hb8
      have hbl8 : Below w7.heap.size w7 w8 := HBA.out.grown hg8 (by simp) (by intro k hk; injection hk with hk; omega)
      have hb9 := below_more HB.out HGL.out hbl8
      have hd9 := hd8.made hb9.size (Below.refl _ _) (ownD w.heap.size 60 18 (.slice none 0 0) 0 []) (by simp [ownD, Value.ownBlock]) (by simp [ownD, Value.ownBlock]) (World.ownsRow_nil _ _ _ _)
      have hd10 := hd9.pull 1 rfl
      obtain ⟨F, hF⟩ : ∃ F : List Dep, [peersD w.heap.size Bs v ps, blkD g5 27 (ConfM.cells ⟨pickB l p 32, (q : Int), []⟩ v), pfD B0 A2 n2 rl, blkD w.heap.size 27 zc.toList] = F := ⟨_, rfl⟩
      have hpr : PrAt w g A n c l B w7.heap.size F (.slice none 0 0) { peer0 with pub := k0 } w8 := ⟨⟨_, HC.out.below hbl8⟩, by rw [← hF]; exact hd10, hb9, HP0.out⟩
      have HST := Lib.hid (show ∃ pm, PrOk k0 pm ∧ PrAt w g A n c l B w7.heap.size F (.slice none 0 0) pm w8 from ⟨_, PrOk.zero k0, hpr⟩)
      have HG8 := Lib.hid (show w.heap.size ≤ w7.heap.size from HB.out.size)
      have HF := Lib.hid hF
      clear hd8 hbl8 hb9 hd9 hd10 hF hpr HNB HBA hb8 hg8 HC HD HB HBK HBP HOC HKC2 HP0 HZP HZE
      generalize w7.heap.size = g8 at HST HG8 ⊢
      obtain ⟨pm, hok, hpr⟩ := HST.out
      obtain ⟨p2, hc2⟩ := hpr.codes
      have HOK := Lib.hid hok
      have HPR := Lib.hid hpr
      have HC := Lib.hid hc2
      clear HST hok hpr hc2
      go_wp2_with fail
      refine (caseBool_any g A n c l B p2 _ HC.out).mono ?_
      rintro e w9 ⟨rfl, hc3, hg3⟩
      replace HPR := Lib.hid (HPR.out.next HGL.out hc3 hg3)
      replace HC := Lib.hid hc3
      clear hc3 hg3
      obtain ⟨b, hb⟩ : ∃ b, (nextV l p2 2 == 1) = b := ⟨_, rfl⟩
      rw [hb]
      clear hb
      go_upto_if 34 with fail
      go_cut [] (fun wx => ∃ pm, PrOk k0 pm ∧ PrAt w g A n c l B g8 F (.slice none 0 0) pm wx)
      case first =>
        cases b with
        | false =>
          go_wp2_with fail
          go_meet
          exact ⟨pm, HOK.out, HPR.out⟩
        | true =>
          go_wp2_with fail
          refine (caseKey_any g A n c l B _ _ HC.out).mono ?_
          rintro e w10 ⟨rfl, hc3, hg3⟩
          replace HPR := Lib.hid (HPR.out.next HGL.out hc3 hg3)
          have hk32 := pickB_length l (nextP l p2 2) 32
          obtain ⟨ks, hks⟩ : ∃ z, pickB l (nextP l p2 2) 32 = z := ⟨_, rfl⟩
          rw [hks] at hk32 ⊢
          obtain ⟨kc3, hkc3⟩ : ∃ z, (ks.map u8v).toArray = z := ⟨_, rfl⟩
          rw [hkc3]
          have HKS := Lib.hid (And.intro hk32 hkc3)
          clear hc3 hg3 hk32 hks hkc3 HC
          go_wp2_with ((with_reducible refine at_op (.store 24 (.tmp 37) (.tmp 36)) rfl ?_); refine wpList_store_obj rfl 24 (.tmp 37) (.tmp 36) rfl g8 32 (ks.map u8v) rfl (by show Value.agg kc3 = _; rw [HKS.out.2]) 57 (pm.cells (.slice none 0 0)) HPR.out.blk (size32 (by rw [List.length_map, HKS.out.1])) (by rw [List.length_map, HKS.out.1, PeerM.cells_length HPR.out.ok]; decide) (u8v_one ks) ?_; intro w11 hb11 hg11)
          rw [peer_set_sha HPR.out.ok _ ks HKS.out.1] at hb11
          go_meet
          exact ⟨{ pm with sha := ks }, HOK.out.sha ks, HPR.out.put HGL.out hg11 hb11 (HPR.out.ok.setSha HKS.out.1) rfl⟩
      have HST := Lib.hid hcut
      clear hcut HOK HPR HC
      obtain ⟨pm, hok, hpr⟩ := HST.out
      obtain ⟨p2, hc2⟩ := hpr.codes
      have HOK := Lib.hid hok
      have HPR := Lib.hid hpr
      have HC := Lib.hid hc2
      clear HST hok hpr hc2
      go_wp2_with fail
      refine (caseBool_any g A n c l B p2 _ HC.out).mono ?_
      rintro e w12 ⟨rfl, hc3, hg3⟩
      replace HPR := Lib.hid (HPR.out.next HGL.out hc3 hg3)
      replace HC := Lib.hid hc3
      clear hc3 hg3
      obtain ⟨b, hb⟩ : ∃ b, (nextV l p2 2 == 1) = b := ⟨_, rfl⟩
      rw [hb]
      clear hb
      go_upto_if 39 with fail
      go_cut [] (fun wx => ∃ pm, PrOk k0 pm ∧ PrAt w g A n c l B g8 F (.slice none 0 0) pm wx)
      case first =>
        cases b with
        | false =>
          go_wp2_with fail
          go_meet
          exact ⟨pm, HOK.out, HPR.out⟩
        | true =>
          go_wp2_with fail
          refine (caseEndpoint_any g A n c l B _ _ HC.out).mono ?_
          rintro e w10 ⟨rfl, hc3, hg3⟩
          replace HPR := Lib.hid (HPR.out.next HGL.out hc3 hg3)
          obtain ⟨r, hr1, hr2, hr⟩ := codeE_pref l (nextP l p2 2)
          have hao := codeA_ok l (nextP l p2 2)
          rw [hr]
          obtain ⟨ea, hea⟩ : ∃ z, codeA l (nextP l p2 2) = z := ⟨_, rfl⟩
          rw [hea] at hao ⊢
          obtain ⟨ec, hec⟩ : ∃ z, (prefC ea (r : Int)).toArray = z := ⟨_, rfl⟩
          rw [hec]
          have HEC := Lib.hid hec
          have HEA := Lib.hid hao
          have HES := Lib.hid (show soundM ea = true from by rw [← hea]; exact codeA_sound l _)
          have HRR := Lib.hid (And.intro hr1 hr2)
          have fo := HPR.out.blk.cell 64
          rw [(peer_at HPR.out.ok _).1] at fo
          have zx := HPR.out.blk.frozen 64
          have HB64 := Lib.hid (show PrAt w g A n c l B g8 F (.slice none 0 0) { pm with hasE := true } (w10.setCell ⟨g8, 64, none⟩ (.bool true)) from HPR.out.put HGL.out (grown_cell _ _ _ _) (by rw [← peer_set_has HPR.out.ok]; exact HPR.out.blk.set_ 64 _) HPR.out.ok rfl)
          clear hc3 hg3 hr1 hr2 hr hao hea hec HC
          go_wp2_with ((with_reducible refine at_op (.store 55 (.tmp 43) (.tmp 41)) rfl ?_); refine wpList_store_obj rfl 55 (.tmp 43) (.tmp 41) rfl g8 65 (prefC ea (r : Int)) rfl (by show Value.agg ec = _; rw [HEC.out]) 57 (PeerM.cells { pm with hasE := true } (.slice none 0 0)) HB64.out.blk (end_cellsOf ea HEA.out (r : Int)) (by rw [prefC_length ea HEA.out, PeerM.cells_length HB64.out.ok]; decide) (pref_oneR ea (r : Int)) ?_; intro w11 hb11 hg11)
          rw [peer_set_end HB64.out.ok _ ea HEA.out] at hb11
          go_meet
          exact ⟨{ pm with hasE := true, ea := ea, ep := (r : Int) }, HOK.out.endp HES.out HRR.out.1 HRR.out.2, HB64.out.put HGL.out hg11 hb11 (HB64.out.ok.setEnd HEA.out ⟨by omega, by have := HRR.out.2; omega⟩) rfl⟩
      have HST := Lib.hid hcut
      clear hcut HOK HPR HC
      have HN3 := Lib.hid (fun (W : World) (p2 : Nat) (h : CodesAt W g A n c l B p2) => h.callNext 3 (by omega))
      obtain ⟨pm, hok, hpr⟩ := HST.out
      obtain ⟨p2, hc2⟩ := hpr.codes
      have HOK := Lib.hid hok
      have HPR := Lib.hid hpr
      have HC := Lib.hid hc2
      clear HST hok hpr hc2
      go_wp2_with fail
      refine (HN3.out _ p2 HC.out).mono ?_
      rintro e w13 ⟨rfl, hc3, hg3⟩
      replace HPR := Lib.hid (HPR.out.next HGL.out hc3 hg3)
      replace HC := Lib.hid hc3
      clear hc3 hg3
      obtain ⟨x3, hx3⟩ : ∃ x, nextV l p2 3 = x := ⟨_, rfl⟩
      rw [hx3]
      clear hx3
      go_upto_if 46 with fail
      generalize ((x3 : Int) == 1) = b
      go_cut [] (fun wx => ∃ pm, PrOk k0 pm ∧ PrAt w g A n c l B g8 F (.slice none 0 0) pm wx)
      case first =>
        cases b with
        | false =>
          go_wp2_with fail
          go_meet
          exact ⟨pm, HOK.out, HPR.out⟩
        | true =>
          go_wp2_with fail
          refine (caseBig_any g A n c l B _ 30000 (by omega) (by omega) _ HC.out).mono ?_
          rintro e w10 ⟨rfl, hc3, hg3⟩
          replace HPR := Lib.hid (HPR.out.next HGL.out hc3 hg3)
          have hlt := Nat.mod_lt (bigV l (nextP l p2 3)) (show 0 < 30000 by omega)
          obtain ⟨kv, hkv⟩ : ∃ z, bigV l (nextP l p2 3) % 30000 = z := ⟨_, rfl⟩
          rw [hkv] at hlt ⊢
          obtain ⟨kk, hkk⟩ : ∃ z, 1000 + kv = z := ⟨_, rfl⟩
          have e3 : (1000 : Int) + (kv : Int) = (kk : Int) := by omega
          have w3x : IntKind.i64.wrap (kk : Int) = (kk : Int) := by rw [IntKind.wrap_i64]; omega
          have HKK := Lib.hid (show 1000 ≤ kk ∧ kk ≤ 31000 from by omega)
          have fo := HPR.out.blk.cell 83
          rw [(peer_at HPR.out.ok _).2.1] at fo
          have zx := HPR.out.blk.frozen 83
          have HB83 := Lib.hid (show PrAt w g A n c l B g8 F (.slice none 0 0) { pm with keep := (kk : Int) } (w10.setCell ⟨g8, 83, none⟩ (.int .i64 (kk : Int))) from HPR.out.put HGL.out (grown_cell _ _ _ _) (by rw [← peer_set_keep HPR.out.ok]; exact HPR.out.blk.set_ 83 _) (HPR.out.ok.setKeep ⟨by omega, by have := HKK.out; omega⟩) rfl)
          clear hc3 hg3 hlt hkv hkk HC
          go_wp2_with fail
          go_meet
          exact ⟨{ pm with keep := (kk : Int) }, HOK.out.keepK HKK.out.1 HKK.out.2, HB83.out⟩
      have HST := Lib.hid hcut
      clear hcut HOK HPR HC
      obtain ⟨pm, hok, hpr⟩ := HST.out
      obtain ⟨p2, hc2⟩ := hpr.codes
      have HPO := Lib.hid (And.intro hok hpr.ok)
      have HPR := Lib.hid hpr
      have HC := Lib.hid hc2
      clear HST hok hpr hc2
      go_wp2_with fail
      refine (HN3.out _ p2 HC.out).mono ?_
      rintro e w14 ⟨rfl, hc3, hg3⟩
      replace HPR := Lib.hid (HPR.out.next HGL.out hc3 hg3)
      have hk3 := nextV_lt l p2 3 (by omega)
      obtain ⟨k3, hk3n⟩ : ∃ z, nextV l p2 3 = z := ⟨_, rfl⟩
      rw [hk3n] at hk3 ⊢
      have hkat := HPR.out
      rw [← HF.out] at hkat
      have HKA := Lib.hid (hkat.kAt (m := m) (i := i) (ps := ps) (c2 := c2) (k := k3) HPO.out.1.al (by omega) HGD.out HCAP.out.1 HCAP.out.2)
      have HK3 := Lib.hid (show k3 ≤ 2 from by omega)
      clear hc3 hg3 hk3 hk3n hkat HPR HC HN3 HF F
      obtain ⟨F2, hF2⟩ : ∃ F2 : List Dep, [peersD w.heap.size Bs v ps, blkD g5 27 (ConfM.cells ⟨pickB l p 32, (q : Int), []⟩ v), blkD w.heap.size 27 zc.toList] = F2 := ⟨_, rfl⟩
      rw [hF2] at HKA
      have HF2 := Lib.hid hF2
      clear hF2
      go_upto_block 2 with fail
      go_cut [6] (fun v6 wx => ∃ (A4 : Option Addr) (n4 c4 : Nat), v6 = .slice A4 n4 c4 ∧ KAt w g A n c l B g8 m i ps F2 pm 0 A4 n4 c4 wx)
      case first =>
        go_wp2_with fail
        go_loopw [6, 9] (fun v6 v9 wr => ∃ (k : Nat) (A4 : Option Addr) (n4 c4 : Nat), k ≤ 2 ∧ v6 = .slice A4 n4 c4 ∧ v9 = .int .i64 (k : Int) ∧ KAt w g A n c l B g8 m i ps F2 pm k A4 n4 c4 wr) (fun _ v9 _ => (intOf v9).toNat)
        case atStart => exact ⟨k3, A2, n2, c2, HK3.out, rfl, rfl, HKA.out⟩
        case round =>
          clear HKA HK3
          obtain ⟨k, A4, n4, c4, hk2, rfl, rfl, hka⟩ := hrel
          have HKA := Lib.hid hka
          clear hka
          by_cases hk : 0 < k
          · have d1 : decide ((k : Int) > 0) = true := by simp; omega
            have d1b : decide (0 < k) = true := decide_eq_true hk
            by_cases hn : 0 < n4
            · have d2 : decide ((n4 : Int) > 0) = true := by simp; omega
              have d2b : decide (0 < n4) = true := decide_eq_true hn
              obtain ⟨⟨p3, B3, al, rl3, va, hrl, hc, hgd, hak, hd⟩, hb, hcap⟩ := HKA.out
              obtain ⟨b, off, rfl⟩ := (show PfRd wr B3 A4 n4 rl3 from hd.get 0 rfl).1.addr hn
              obtain ⟨x, rl4, rfl⟩ : ∃ x r, rl3 = x :: r := by
                cases rl3 with
                | nil => simp at hrl; omega
                | cons x r => exact ⟨x, r, rfl⟩
              have hpf : PfRd wr B3 (some ⟨b, off, none⟩) n4 (x :: rl4) := hd.get 0 rfl
              have hat := hpf.1.at 0 (prefC x.1 x.2) rfl
              have HX := Lib.hid (hpf.2 x (List.mem_cons_self ..))
              have hbm : b ∈ (pfD B3 (some ⟨b, off, none⟩) n4 (x :: rl4)).bs := pfB_mem rfl hn
              have HBL := Lib.hid (hd.at 0 rfl hbm).2
              have hb8 : b ≠ g8 := hd.sep hbm (i := 1) rfl (by simp [blkD])
              have hbv : ∀ k, va.ownBlock = some k → b ≠ k := fun k hk => hd.sep hbm (i := 0) rfl (by simp [ownD, hk])
              have HATK := Lib.hid (fun (W : World) (h : W.heap[b]? = wr.heap[b]?) => (show At W b (off + 0 * 18) (prefC x.1 x.2) from fun j v hv => (World.cell?_of_block h).trans (hat.2 j v hv)))
              have HBK := Lib.hid (show b ≠ g8 ∧ ∀ W1 W2 : World, W1.grownBy W2 va.ownBlock → W1.heap[b]? = wr.heap[b]? → W2.heap[b]? = wr.heap[b]? from ⟨hb8, fun W1 W2 hg h => (hg.block b (by
                have := HBL.out
                rcases Nat.lt_or_ge b W1.heap.size with h1 | h1
                · exact h1
                · rw [Array.getElem?_eq_none h1, Array.getElem?_eq_getElem this] at h; cases h) (fun e => hbv b e.symm rfl)).trans h⟩)
              obtain ⟨xc, hxc⟩ : ∃ z, (prefC x.1 x.2).toArray = z := ⟨_, rfl⟩
              have HXC := Lib.hid hxc
              obtain ⟨pi, hpi, hpz, hps, hpb⟩ := prefInfo
              have HPI := Lib.hid (And.intro hpi (And.intro hpz (And.intro hps hpb)))
              have HN4 := Lib.hid hn
              have HNN := Lib.hid (show al.length + 1 ≤ 100 ∧ al.length + 1 + (k - 1) ≤ 2 ∧ rl4.length = n4 - 1 ∧ n4 ≤ c4 from ⟨by omega, by omega, by simp at hrl; omega, hcap⟩)
              have HML := Lib.hid (show maxLen = 9223372036854775807 from rfl)
              have HSL := Lib.hid (show ∀ w : World, (Instr.sliceAt 49 (.slice (some ⟨b, off, none⟩) n4 c4) (some (.int .i64 1)) none none).run Tryz.prog w = .ok (.slice (addrK (some ⟨b, off, none⟩) 1 c4 18) (n4 - 1) (c4 - 1)) w from ps_l (some ⟨b, off, none⟩) n4 c4 1 hn)
              have HDD := Lib.hid hd
              have HC := Lib.hid hc
              have HB := Lib.hid hb
              have HGD2 := Lib.hid hgd
              clear hpf hat hbm hb8 hbv hxc hpi hpz hps hpb hd hc hb hrl hgd hak hcap HKA
              go_upto_block 3 with fail
              go_cut [6] (fun v6 wx => ∃ (A5 : Option Addr) (n5 c5 : Nat), v6 = .slice A5 n5 c5 ∧ KAt w g A n c l B g8 m i ps F2 pm (k - 1) A5 n5 c5 wx)
              case first =>
                go_upto_region 16 with fail
                refine wp_region_held_drew (S := fun W' => W'.heap[b]? = wr.heap[b]?) (by kernel_rfl) rfl (fun hHeld => ?_)
                replace HDD := Lib.hid (HDD.out.below ((Below.refl _ _).drew))
                replace HC := Lib.hid (HC.out.below ((Below.refl _ _).drew))
                replace HB := Lib.hid (below_more HB.out HGL.out ((Below.refl _ _).drew))
                have HB0 := Lib.hid (show b < wr.drew.heap.size from HBL.out)
                generalize wr.drew = W0 at HDD HC HB HB0 hHeld ⊢
                refine take_first (v := ?_) 0 rfl (by kernel_rfl) (by kernel_rfl) (by kernel_rfl) (fun _ _ _ h => h) (Or.inl ⟨by rfl, ?_⟩) (by assumption) ?_
                rotate_left
                · (intro w hSw; (try dsimp only at hSw); go_simp; try with_reducible rfl)
                (try simp only [Act.put, List.setIfInBounds_toArray, List.set_cons_zero, List.set_cons_succ])
                refine take_first (v := ?_) 2 rfl (by kernel_rfl) (by kernel_rfl) (by kernel_rfl) (fun _ _ _ h => h) (Or.inl ⟨by rfl, ?_⟩) (by assumption) ?_
                rotate_left
                · (intro w hSw; (try dsimp only at hSw); go_simp; try with_reducible rfl)
                (try simp only [Act.put, List.setIfInBounds_toArray, List.set_cons_zero, List.set_cons_succ])
                refine take_first (v := ?_) 3 rfl (by kernel_rfl) (by kernel_rfl) (by kernel_rfl) (fun _ _ _ h => h) (Or.inl ⟨by rfl, ?_⟩) (by assumption) ?_
                rotate_left
                · (intro w hSw; (try dsimp only at hSw); go_simp; try with_reducible rfl)
                (try simp only [Act.put, List.setIfInBounds_toArray, List.set_cons_zero, List.set_cons_succ])
                refine take_first (v := ?_) 7 rfl (by kernel_rfl) (by kernel_rfl) (by kernel_rfl) (fun _ _ _ h => h) (Or.inl ⟨by rfl, ?_⟩) (by assumption) ?_
                rotate_left
                · (intro w hSw; (try dsimp only at hSw); go_simp; try with_reducible rfl)
                (try simp only [Act.put, List.setIfInBounds_toArray, List.set_cons_zero, List.set_cons_succ])
                refine take_first (v := ?_) 8 rfl (by kernel_rfl) (by kernel_rfl) (by kernel_rfl) (fun _ _ _ h => h) (Or.inl ⟨by rfl, ?_⟩) (by assumption) ?_
                rotate_left
                · (intro w hSw; (try dsimp only at hSw); have hsl := HSL.out; go_simp; try with_reducible rfl)
                (try simp only [Act.put, List.setIfInBounds_toArray, List.set_cons_zero, List.set_cons_succ])
                refine take_first (v := .agg xc) 4 rfl (by kernel_rfl) (by kernel_rfl) (by kernel_rfl) (fun _ _ _ h => h) (by rw [← HXC.out]; exact yields_load_obj (by rfl) 60 (.tmp 65) rfl b _ rfl _ (fun W hW => HATK.out W hW) _ Tryz.underlying60 rfl (pref_cellsOf' x.1 HX.out.1 x.2)) (by assumption) ?_
                (try simp only [Act.put, List.setIfInBounds_toArray, List.set_cons_zero, List.set_cons_succ])
                have fo := (HDD.out.blk 2 rfl).cell 84
                rw [(peer_at HPO.out.2 _).2.2] at fo
                obtain ⟨W1, hW1⟩ : ∃ z, W0.alloc (.cells xc 60) = z := ⟨_, rfl⟩
                have HW1 := Lib.hid hW1
                have hal := (Below.refl W0.heap.size W0).alloc (Nat.le_refl _) (.cells xc 60)
                rw [hW1] at hal
                have HD1 := Lib.hid (HDD.out.below hal)
                have HC1 := Lib.hid (HC.out.below hal)
                have HB1 := Lib.hid (below_more HB.out HGL.out hal)
                have HRW := Lib.hid (show RdRow W1 W1.heap.size (some ⟨W0.heap.size, 0, none⟩) 18 1 [prefC x.1 x.2] from by rw [← hW1]; exact blk_row (t := 60) (rest := []) (by rw [← HXC.out]; simpa using Blk.new W0 60 (prefC x.1 x.2)) (by intro o ho; rw [List.mem_singleton] at ho; rw [ho, prefC_length x.1 HX.out.1]) rfl)
                have HS1 := Lib.hid (show W1.heap[b]? = wr.heap[b]? from (hal.block b HB0.out).trans hHeld)
                clear hW1 hal
                refine load_or (v := va) 1 5 rfl rfl (by kernel_rfl) (.inl ⟨by rfl, fun W hW => by subst hW; go_simp; try with_reducible rfl⟩) hHeld ?_ (fun K hK => ?_)
                · (try simp only [Act.put, List.setIfInBounds_toArray, List.set_cons_zero, List.set_cons_succ])
                  refine step_one 5 rfl (by kernel_rfl) (fun K hK => ?_)
                  refine step_buildOne rfl 49 60 (.tmp 66) rfl xc rfl 18 Tryz.underlying49 pi HPI.out.1 HPI.out.2.2.1 _ HPI.out.2.1 (by decide) (by decide) (by rw [← HXC.out, List.size_toArray, prefC_length x.1 HX.out.1]) ?_
                  rw [HW1.out]
                  refine hK.out _ _ HS1.out (fun hHeld => ?_)
                  clear hK K fo
                  (try simp only [Act.put, List.setIfInBounds_toArray, List.set_cons_zero, List.set_cons_succ])
                  refine step_one 6 rfl (by kernel_rfl) (fun K hK => ?_)
                  refine step_append_rows _ rfl (.tmp 63) (.tmp 67) 49 rfl w.heap.size 60 pi _ 18 32 Tryz.underlying49 HPI.out.1 HPI.out.2.1 HPI.out.2.2.1 HPI.out.2.2.2 (by rfl) (by decide) va al.length (pfsV al).flatten rfl (HD1.out.own 1 rfl) _ _ 1 1 [prefC x.1 x.2] rfl HRW.out (by simpa using pref_oneR x.1 x.2) (by have := HNN.out.1; have := HML.out; omega) (by have := HNN.out.1; omega) HB1.out.size ?_
                  intro v2 W2 ho2 hg2 hv2
                  have hd2 := (HD1.out.pull 1 rfl).grow HB1.out.size ho2 hg2 hv2
                  have HD2 := Lib.hid (hd2.pull 2 rfl)
                  have HC2 := Lib.hid (HC1.out.grownBy hg2 (fun k e => by have := (own_lt (HD1.out.own 1 rfl) e).1; have := HGL.out; omega))
                  have HB2 := Lib.hid (HB1.out.grown hg2 (by have := HB1.out.size; have := HGL.out; omega) (fun k e => by have := (own_lt (HD1.out.own 1 rfl) e).1; have := HGL.out; omega))
                  have hHs := HBK.out.2 W1 W2 hg2 HS1.out
                  obtain ⟨A7, c7, rfl, _, _, _⟩ := own_sliceK ho2
                  refine hK.out _ _ hHs (fun hHeld => ?_)
                  clear hK K hHs ho2 hg2 hv2 hd2 HD1 HC1 HB1 HRW
                  (try simp only [Act.put, List.setIfInBounds_toArray, List.set_cons_zero, List.set_cons_succ])
                  refine take_first (v := ?_) 9 rfl (by kernel_rfl) (by kernel_rfl) (by kernel_rfl) (fun _ _ _ h => h) (Or.inl ⟨by rfl, ?_⟩) (by assumption) ?_
                  rotate_left
                  · (intro w hSw; (try dsimp only at hSw); go_simp; try with_reducible rfl)
                  (try simp only [Act.put, List.setIfInBounds_toArray, List.set_cons_zero, List.set_cons_succ])
                  refine step_one 10 rfl (by kernel_rfl) (fun K hK => ?_)
                  have fo2 := (HD2.out.blk 0 rfl).cell 84
                  rw [(peer_at HPO.out.2 _).2.2] at fo2
                  have zx2 := (HD2.out.blk 0 rfl).frozen 84
                  go_simp
                  refine hK.out _ _ ((Below.heap_setCell _ _ _ _ HBK.out.1).trans hHeld) (fun hHeld => ?_)
                  clear hK K fo2 zx2
                  have hd3 := HD2.out.set HB2.out.size 84 (.slice A7 (al.length + 1) c7)
                  rw [peer_set_al HPO.out.2] at hd3
                  have hd4 := ((((hd3.pull 2 rfl).tail' (by have := HN4.out; omega) (by have := HB2.out.size; simpa using this) HNN.out.2.2.2).pull 2 rfl).pull 1 rfl)
                  have HD4 := Lib.hid hd4
                  have HC4 := Lib.hid (HC2.out.keptBut (b := g8) (.of_set (j := 84) (v := .slice A7 (al.length + 1) c7)) (by have := HG8.out; have := HGL.out; omega))
                  have HB4 := Lib.hid (HB2.out.setCell (p := ⟨g8, 84, none⟩) (by have := HG8.out; have := HGL.out; show g ≤ g8; omega) (.slice A7 (al.length + 1) c7))
                  have HKF := Lib.hid (show KAt w g A n c l B g8 m i ps F2 pm (k - 1) (addrK (some ⟨b, off, none⟩) 1 c4 18) (n4 - 1) (c4 - 1) (W2.setCell ⟨g8, 84, none⟩ (.slice A7 (al.length + 1) c7)) from by
                    refine ⟨⟨p3, B3, al ++ [x], rl4, .slice A7 (al.length + 1) c7, HNN.out.2.2.1, HC4.out, ?_, ?_, ?_⟩, HB4.out, ?_⟩
                    · rw [List.append_assoc]; exact HGD2.out
                    · rw [List.length_append, List.length_singleton]; exact HNN.out.2.1
                    · rw [List.length_append, List.length_singleton, pfsV_app1]; exact HD4.out
                    · have := HNN.out.2.2.2; omega)
                  clear hd3 hd4 HD2 HC2 HB2 HD4 HC4 HB4
                  (try simp only [Act.put, List.setIfInBounds_toArray, List.set_cons_zero, List.set_cons_succ])
                  refine take_first (v := ?_) 11 rfl (by kernel_rfl) (by kernel_rfl) (by kernel_rfl) (fun _ _ _ h => h) (Or.inl ⟨by rfl, ?_⟩) (by assumption) ?_
                  rotate_left
                  · (intro w hSw; (try dsimp only at hSw); go_simp; try with_reducible rfl)
                  (try simp only [Act.put, List.setIfInBounds_toArray, List.set_cons_zero, List.set_cons_succ])
                  refine wpAnyH_done (by kernel_rfl) ?_ _
                  clear hHeld
                  go_wp2_with fail
                  go_meet
                  exact ⟨_, _, _, rfl, HKF.out⟩
                · refine step_buildOne rfl 49 60 (.tmp 66) rfl xc rfl 18 Tryz.underlying49 pi HPI.out.1 HPI.out.2.2.1 _ HPI.out.2.1 (by decide) (by decide) (by rw [← HXC.out, List.size_toArray, prefC_length x.1 HX.out.1]) ?_
                  rw [HW1.out]
                  refine hK.out _ _ HS1.out (fun hHeld => ?_)
                  clear hK K fo
                  (try simp only [Act.put, List.setIfInBounds_toArray, List.set_cons_zero, List.set_cons_succ])
                  have fo := (HD1.out.blk 2 rfl).cell 84
                  rw [(peer_at HPO.out.2 _).2.2] at fo
                  refine load_one (v := va) 1 rfl (by kernel_rfl) (.inl ⟨by rfl, fun W hW => by subst hW; go_simp; try with_reducible rfl⟩) HS1.out ?_
                  (try simp only [Act.put, List.setIfInBounds_toArray, List.set_cons_zero, List.set_cons_succ])
                  clear fo
                  refine step_one 6 rfl (by kernel_rfl) (fun K hK => ?_)
                  refine step_append_rows _ rfl (.tmp 63) (.tmp 67) 49 rfl w.heap.size 60 pi _ 18 32 Tryz.underlying49 HPI.out.1 HPI.out.2.1 HPI.out.2.2.1 HPI.out.2.2.2 (by rfl) (by decide) va al.length (pfsV al).flatten rfl (HD1.out.own 1 rfl) _ _ 1 1 [prefC x.1 x.2] rfl HRW.out (by simpa using pref_oneR x.1 x.2) (by have := HNN.out.1; have := HML.out; omega) (by have := HNN.out.1; omega) HB1.out.size ?_
                  intro v2 W2 ho2 hg2 hv2
                  have hd2 := (HD1.out.pull 1 rfl).grow HB1.out.size ho2 hg2 hv2
                  have HD2 := Lib.hid (hd2.pull 2 rfl)
                  have HC2 := Lib.hid (HC1.out.grownBy hg2 (fun k e => by have := (own_lt (HD1.out.own 1 rfl) e).1; have := HGL.out; omega))
                  have HB2 := Lib.hid (HB1.out.grown hg2 (by have := HB1.out.size; have := HGL.out; omega) (fun k e => by have := (own_lt (HD1.out.own 1 rfl) e).1; have := HGL.out; omega))
                  have hHs := HBK.out.2 W1 W2 hg2 HS1.out
                  obtain ⟨A7, c7, rfl, _, _, _⟩ := own_sliceK ho2
                  refine hK.out _ _ hHs (fun hHeld => ?_)
                  clear hK K hHs ho2 hg2 hv2 hd2 HD1 HC1 HB1 HRW
                  (try simp only [Act.put, List.setIfInBounds_toArray, List.set_cons_zero, List.set_cons_succ])
                  refine take_first (v := ?_) 9 rfl (by kernel_rfl) (by kernel_rfl) (by kernel_rfl) (fun _ _ _ h => h) (Or.inl ⟨by rfl, ?_⟩) (by assumption) ?_
                  rotate_left
                  · (intro w hSw; (try dsimp only at hSw); go_simp; try with_reducible rfl)
                  (try simp only [Act.put, List.setIfInBounds_toArray, List.set_cons_zero, List.set_cons_succ])
                  refine step_one 10 rfl (by kernel_rfl) (fun K hK => ?_)
                  have fo2 := (HD2.out.blk 0 rfl).cell 84
                  rw [(peer_at HPO.out.2 _).2.2] at fo2
                  have zx2 := (HD2.out.blk 0 rfl).frozen 84
                  go_simp
                  refine hK.out _ _ ((Below.heap_setCell _ _ _ _ HBK.out.1).trans hHeld) (fun hHeld => ?_)
                  clear hK K fo2 zx2
                  have hd3 := HD2.out.set HB2.out.size 84 (.slice A7 (al.length + 1) c7)
                  rw [peer_set_al HPO.out.2] at hd3
                  have hd4 := ((((hd3.pull 2 rfl).tail' (by have := HN4.out; omega) (by have := HB2.out.size; simpa using this) HNN.out.2.2.2).pull 2 rfl).pull 1 rfl)
                  have HD4 := Lib.hid hd4
                  have HC4 := Lib.hid (HC2.out.keptBut (b := g8) (.of_set (j := 84) (v := .slice A7 (al.length + 1) c7)) (by have := HG8.out; have := HGL.out; omega))
                  have HB4 := Lib.hid (HB2.out.setCell (p := ⟨g8, 84, none⟩) (by have := HG8.out; have := HGL.out; show g ≤ g8; omega) (.slice A7 (al.length + 1) c7))
                  have HKF := Lib.hid (show KAt w g A n c l B g8 m i ps F2 pm (k - 1) (addrK (some ⟨b, off, none⟩) 1 c4 18) (n4 - 1) (c4 - 1) (W2.setCell ⟨g8, 84, none⟩ (.slice A7 (al.length + 1) c7)) from by
                    refine ⟨⟨p3, B3, al ++ [x], rl4, .slice A7 (al.length + 1) c7, HNN.out.2.2.1, HC4.out, ?_, ?_, ?_⟩, HB4.out, ?_⟩
                    · rw [List.append_assoc]; exact HGD2.out
                    · rw [List.length_append, List.length_singleton]; exact HNN.out.2.1
                    · rw [List.length_append, List.length_singleton, pfsV_app1]; exact HD4.out
                    · have := HNN.out.2.2.2; omega)
                  clear hd3 hd4 HD2 HC2 HB2 HD4 HC4 HB4
                  (try simp only [Act.put, List.setIfInBounds_toArray, List.set_cons_zero, List.set_cons_succ])
                  refine take_first (v := ?_) 11 rfl (by kernel_rfl) (by kernel_rfl) (by kernel_rfl) (fun _ _ _ h => h) (Or.inl ⟨by rfl, ?_⟩) (by assumption) ?_
                  rotate_left
                  · (intro w hSw; (try dsimp only at hSw); go_simp; try with_reducible rfl)
                  (try simp only [Act.put, List.setIfInBounds_toArray, List.set_cons_zero, List.set_cons_succ])
                  refine wpAnyH_done (by kernel_rfl) ?_ _
                  clear hHeld
                  go_wp2_with fail
                  go_meet
                  exact ⟨_, _, _, rfl, HKF.out⟩

              obtain ⟨A5, n5, c5, rfl, hka⟩ := hcut
              have HKA := Lib.hid hka
              obtain ⟨k1, hk1⟩ : ∃ z, k - 1 = z := ⟨_, rfl⟩
              rw [hk1] at HKA
              have e5 : (k : Int) - 1 = (k1 : Int) := by omega
              have w5' : IntKind.i64.wrap (k1 : Int) = (k1 : Int) := by rw [IntKind.wrap_i64]; omega
              have HK1 := Lib.hid (show k1 ≤ 2 ∧ k1 < k from by omega)
              clear hka hk1 hk2 d1 d1b hk hn d2 d2b
              go_wp2_with fail
              go_roundw
              case rel => exact ⟨k1, A5, n5, c5, HK1.out.1, rfl, rfl, HKA.out⟩
              case measure => simp [intOf]; exact HK1.out.2
            · obtain rfl : n4 = 0 := by omega
              have d2 : decide (((0 : Nat) : Int) > 0) = false := by decide
              obtain ⟨⟨p3, B3, al, rl3, va, hrl, hc, hgd, hak, hd⟩, hb, hcap⟩ := HKA.out
              have HK0 := Lib.hid (show KAt w g A n c l B g8 m i ps F2 pm 0 A4 0 c4 wr from ⟨⟨p3, B3, al, rl3, va, hrl, hc, hgd, by omega, hd⟩, hb, hcap⟩)
              clear hrl hc hgd hak hd hb hcap
              go_wp2_with fail
              go_meet
              exact ⟨A4, 0, c4, rfl, HK0.out⟩
          · obtain rfl : k = 0 := by omega
            have d1 : decide (((0 : Nat) : Int) > 0) = false := by decide
            go_wp2_with fail
            go_meet
            exact ⟨A4, n4, c4, rfl, HKA.out⟩
      obtain ⟨A4, n4, c4, rfl, hka⟩ := hcut
      have HKA := Lib.hid hka
      clear hka
      obtain ⟨⟨p4, B4, al, rl5, va, hl5, hc, hgd, hak, hd⟩, hb, hcap⟩ := HKA.out
      rw [← HF2.out] at hd
      obtain ⟨vs, hvl, hv1, hv2, hvB⟩ := hd.peers 3 rfl
      obtain ⟨A9, c9, rfl, hc9, hm9, _⟩ := own_sliceK hv1
      have hpk : (PeerM.mk pm.pub pm.sha pm.hasE pm.ea pm.ep pm.keep al).ok := ⟨HPO.out.2.1, HPO.out.2.2.1, HPO.out.2.2.2.1, HPO.out.2.2.2.2.1, HPO.out.2.2.2.2.2.1, fun x hx => (hgd.rest2 x hx).1⟩
      have hgn := GoodC.snoc (m := m) (i := i - 1) (ps := ps) (al := al) (rl := rl5) (by have := HM.out; omega) (by rw [Nat.sub_add_cancel hi]; exact hgd) (p := PeerM.mk pm.pub pm.sha pm.hasE pm.ea pm.ep pm.keep al) hpk (HPO.out.1.right (fun x hx => (hgd.rest2 x hx).2)) rfl (by omega) (r := UInt8.ofNat x2 :: List.replicate 30 0) (by show pm.pub = _; rw [Nat.sub_add_cancel hi, HPO.out.1.pub]; exact HK0.out.2)
      obtain ⟨pi2, zz, hpi, hpz, hpc, hps, hpb⟩ := peerInfo
      have HPI := Lib.hid (And.intro hpi (And.intro hpz (And.intro hpc (And.intro hps hpb))))
      obtain ⟨oc2, hoc2⟩ : ∃ z, (pm.cells va).toArray = z := ⟨_, rfl⟩
      have HOC := Lib.hid hoc2
      obtain ⟨Av, cv, rfl, _, _, _⟩ := own_sliceK (hd.own 1 rfl)
      have HPL := Lib.hid (show ps.length + 1 ≤ 100 from by have h1 := hgn.few; have := HM.out; rw [List.length_append, List.length_singleton] at h1; omega)
      have HML := Lib.hid (show maxLen = 9223372036854775807 from rfl)
      have HXK0 := Lib.hid (show (ConfM.mk (pickB l p 32) (q : Int) []).ok from HCK.out)
      have fo := (hd.blk 4 rfl).cell 33
      rw [conf_at HXK0.out] at fo
      have HB8 := Lib.hid (hd.blk 2 rfl)
      have hal := (Below.refl wc.heap.size wc).alloc (Nat.le_refl _) (.cells oc2 57)
      have hd1 := hd.below hal
      have HV1 := Lib.hid (show (wc.alloc (.cells oc2 57)).ownsRow w.heap.size 57 85 (.slice A9 ps.length c9) ps.length (peersV ps vs).flatten from own_below hv1 hal)
      have HV2 := Lib.hid (show ∀ (i : Nat) (q : PeerM) (x : Value), ps[i]? = some q → vs[i]? = some x → (wc.alloc (.cells oc2 57)).ownsRow w.heap.size 60 18 x q.al.length (pfsV q.al).flatten from fun i q x h1 h2 => own_below (hv2 i q x h1 h2) hal)
      have HRW := Lib.hid (show RdRow (wc.alloc (.cells oc2 57)) (wc.alloc (.cells oc2 57)).heap.size (some ⟨wc.heap.size, 0, none⟩) 85 1 [pm.cells (.slice Av al.length cv)] from blk_row (t := 57) (rest := []) (by rw [← HOC.out]; simpa using Blk.new wc 57 (pm.cells (.slice Av al.length cv))) (by intro o ho; rw [List.mem_singleton] at ho; rw [ho, PeerM.cells_length HPO.out.2]) rfl)
      have HD1 := Lib.hid ((hd1.pull 1 rfl).pull 3 rfl)
      have HC1 := Lib.hid (hc.below hal)
      have HB1 := Lib.hid (below_more hb HGL.out hal)
      have HVB := Lib.hid (And.intro hvl hvB)
      have HGN := Lib.hid (And.intro hgn (And.intro hl5 hcap))
      have HPK := Lib.hid hpk
      clear hd hd1 hc hb hal hvl hv1 hv2 hvB hc9 hm9 hgn hl5 hcap hgd hak hpk hpi hpz hpc hps hpb hoc2 HKA
      go_upto_region 5 with (first | ((with_reducible refine at_op (.load 57 (.tmp 8)) rfl ?_); refine wpList_load_obj rfl 57 (.tmp 8) rfl g8 0 rfl _ HB8.out.all _ Tryz.underlying57 rfl (peer_cellsOf pm HPO.out.2 _) ?_; rw [HOC.out]) | (refine wpList_buildOne rfl 25 57 (.tmp 74) rfl oc2 rfl 85 Tryz.underlying25 pi2 HPI.out.1 HPI.out.2.2.2.1 _ HPI.out.2.1 (by decide) (by decide) (by rw [← HOC.out, List.size_toArray, PeerM.cells_length HPO.out.2]) ?_) | (at_builtin; refine wpList_append_rows _ rfl (.tmp 73) (.tmp 75) 25 rfl w.heap.size 57 pi2 _ 85 136 Tryz.underlying25 HPI.out.1 HPI.out.2.1 HPI.out.2.2.2.1 HPI.out.2.2.2.2 HPI.out.2.2.1 (by decide) _ ps.length _ rfl HV1.out _ _ 1 1 [pm.cells (.slice Av al.length cv)] rfl HRW.out (by simpa using peer_one pm Av al.length cv) (by have := HPL.out; have := HML.out; omega) (by have := HPL.out; omega) HB1.out.size ?_; intro v2 W2 ho2 hg2 hv2; have hex := HeapD.peer (p := PeerM.mk pm.pub pm.sha pm.hasE pm.ea pm.ep pm.keep al) HD1.out HB1.out.size HVB.out.1 HV2.out HVB.out.2 ho2 hg2 hv2; obtain ⟨A7, c7, rfl, _, _, _⟩ := own_sliceK ho2; obtain ⟨Bs', hd2⟩ := hex; have fo2 := (hd2.blk 3 rfl).cell 33; rw [conf_at HXK0.out] at fo2; have zx2 := (hd2.blk 3 rfl).frozen 33))
      have hb2 := HB1.out.grown hg2 (by have := HB1.out.size; have := HGL.out; omega) (fun k e => by have := (own_lt HV1.out e).1; have := HGL.out; omega)
      have hc2 := HC1.out.grownBy hg2 (fun k e => by have := (own_lt HV1.out e).1; have := HGL.out; omega)
      have hg5 := hd2.at 3 rfl (k := g5) (by simp [blkD])
      have hd3 := (hd2.pull 3 rfl).set hb2.size 33 (.slice A7 (ps.length + 1) c7)
      rw [conf_set_peers HXK0.out] at hd3
      have hd4 := ((hd3.pull 3 rfl).drop).pull 1 rfl
      have hc4 := hc2.keptBut (b := g5) (.of_set (j := 33) (v := .slice A7 (ps.length + 1) c7)) (by have := HGL.out; omega)
      have hb4 := hb2.setCell (p := ⟨g5, 33, none⟩) (by have := HGL.out; show g ≤ g5; omega) (.slice A7 (ps.length + 1) c7)
      obtain ⟨i1, hi1⟩ : ∃ z, i - 1 = z := ⟨_, rfl⟩
      rw [hi1] at HGN
      have HST := Lib.hid (show CnfAt w g A n c l B m w.heap.size g5 (pickB l p 32) (q : Int) i1 A4 n4 c4 (W2.setCell ⟨g5, 33, none⟩ (.slice A7 (ps.length + 1) c7)) from ⟨⟨p4, B4, _, _, Bs', rl5, HGN.out.2.1, hc4, HGN.out.1, by rw [hzc]; exact hd4⟩, hb4, HGN.out.2.2⟩)
      have e7 : (i : Int) - 1 = (i1 : Int) := by omega
      have w7' : IntKind.i64.wrap (i1 : Int) = (i1 : Int) := by have := HM.out; rw [IntKind.wrap_i64]; omega
      have HI1 := Lib.hid (show i1 ≤ m ∧ i1 < i from by omega)
      clear hb2 hc2 hg5 hd3 hd4 hc4 hb4 hi1 fo fo2 zx2 hd2 ho2 hg2 hv2 him hi e1 w1' w2' w3' hzc
      go_wp2_with fail
      go_roundw
      case rel => exact ⟨i1, A4, n4, c4, HI1.out.1, rfl, rfl, HST.out⟩
      case measure => simp [intOf]; exact HI1.out.2
    · obtain rfl : i = 0 := by omega
      obtain ⟨vs, hvl, hv1, hv2, hvB⟩ := HD.out.peers 0 rfl
      obtain ⟨A9, c9, rfl, hc9, hm9, _⟩ := own_sliceK hv1
      have HPA := Lib.hid (show PeersAt w.heap.size wr Bs (.slice A9 ps.length c9) ps from ⟨vs, hvl, hv1, hv2, hvB⟩)
      have HC9 := Lib.hid hc9
      clear hvl hv1 hv2 hvB hc9 hm9
      have HXK := Lib.hid (show (ConfM.mk (pickB l p 32) (q : Int) ps).ok from ⟨HK32.out, (show inI64 (q : Int) from ⟨by omega, by have := HQ.out; omega⟩), fun x hx => (HGD.out.ok x hx).1⟩)
      have HXK0 := Lib.hid (show (ConfM.mk (pickB l p 32) (q : Int) []).ok from HCK.out)
      obtain ⟨cc, hcc⟩ : ∃ z, (ConfM.cells ⟨pickB l p 32, (q : Int), []⟩ (.slice A9 ps.length c9)).toArray = z := ⟨_, rfl⟩
      have HCC := Lib.hid hcc
      clear hcc
      have HB5 := Lib.hid (HD.out.blk 1 rfl)
      have HB4 := Lib.hid (HD.out.blk 3 rfl)
      have HG4 := Lib.hid (HD.out.at 3 rfl (k := w.heap.size) (by simp [blkD]))
      have d1 : decide (((0 : Nat) : Int) > 0) = false := by decide
      have HHI := Lib.hid hi
      clear hi him hzc
      go_upto_region 18 with fail
      go_wp2_with (first | ((with_reducible refine at_op (.load 27 (.tmp 5)) rfl ?_); refine wpList_load_obj rfl 27 (.tmp 5) rfl g5 0 rfl _ HB5.out.all _ Tryz.underlying27 rfl (conf_cellsOf ⟨pickB l p 32, (q : Int), []⟩ HXK0.out _) ?_; rw [HCC.out]) | ((with_reducible refine at_op (.store 27 (.tmp 4) (.tmp 78)) rfl ?_); refine wpList_store_obj rfl 27 (.tmp 4) (.tmp 78) rfl w.heap.size 0 (ConfM.cells ⟨pickB l p 32, (q : Int), []⟩ (.slice A9 ps.length c9)) rfl (by show Value.agg cc = _; rw [HCC.out]) 27 zc.toList HB4.out (conf_cellsOf ⟨pickB l p 32, (q : Int), []⟩ HXK0.out _) (by rw [ConfM.cells_length HXK0.out, HZC.out]; decide) (conf_one _ A9 _ c9) ?_; intro w9 hb9 hg9))
      rw [setL_all zc.toList _ (by rw [ConfM.cells_length HXK0.out, HZC.out])] at hb9
      have hd9 := ((HD.out.pull 3 rfl).put HB.out.size (.of_grown hg9) hb9).pull 1 rfl
      have hp9 := hd9.peers 0 rfl
      exact bodyPost_ret (results_obj rfl _ _ w.heap.size 27 (ConfM.cells ⟨pickB l p 32, (q : Int), []⟩ (.slice A9 ps.length c9)) _ rfl hb9 Tryz.underlying27 rfl (conf_cellsOf ⟨pickB l p 32, (q : Int), []⟩ HXK0.out _)) rfl ⟨⟨pickB l p 32, (q : Int), ps⟩, A9, c9, rfl, HXK.out, HGD.out.valid HM.out _ (by omega) (by have := HQ.out; omega), by have := HGD.out.few; simpa using this, fun x hx => (HGD.out.ok x hx).2.2.1, HC9.out, hp9.rd rfl HXK.out.2.2, HB.out.grown hg9 (by have := HB.out.size; have := HGL.out; omega) (by intro k hk; injection hk with hk; have := HGL.out; omega)⟩
end Go.Proofs.YtcbfchkhbngpkaaGreatDoor
namespace Go.Proofs.YtcbfchkhbngpkaaGreatDoor
open Go.RowKit

/-- a line: a name and its value -/
def entT (name value : List UInt8) : List UInt8 := name ++ ([32, 61, 32] ++ value)
def psT (al : List (AddrM × Int)) : List UInt8 := Lib.join (al.map fun q => prefT q.1 q.2) [44, 32]
def peerT (p : PeerM) : List (List UInt8) :=
  [] :: tPeer :: entT tPub (textL p.pub) :: ((if p.sha = List.replicate 32 0 then [] else [entT tSha (textL p.sha)]) ++ ((if p.hasE then [entT tEnd (endT p.ea p.ep)] else []) ++ ((if p.keep = 0 then [] else [entT tKeep (decT p.keep.toNat)]) ++ (if p.al.length = 0 then [] else [entT tAll (psT p.al)]))))
def confT (c : ConfM) : List (List UInt8) := tIface :: entT tPriv (textL c.priv) :: entT tPort (decT c.port.toNat) :: c.peers.flatMap peerT
def fmtM (c : ConfM) : List UInt8 := (confT c).flatMap fun l => l ++ [10]
theorem joinT_nl : ∀ ls : List (List UInt8), ls ≠ [] → joinT 10 ls ++ [10] = ls.flatMap fun l => l ++ [10]
  | [], h => absurd rfl h
  | [a], _ => by simp [joinT]
  | a :: b :: r, _ => by
    have := joinT_nl (b :: r) (by simp)
    simp only [joinT, List.flatMap_cons, List.append_assoc, List.cons_append] at this ⊢
    rw [this]
    simp
theorem prefT_le (a : AddrM) (b : Int) (h : b ≤ 9223372036854775807) : (prefT a b).length ≤ 100 := by
  have h1 := addrT_len a
  have h2 := decT_len b.toNat 19 (by omega) (by omega)
  rw [prefT]
  split
  · simp
  · simp only [List.length_append, List.length_cons]
    omega
set_option maxRecDepth 100000 in
set_option maxHeartbeats 8000000 in
theorem entry_any (name value : List UInt8) (h1 : name.length ≤ 1000) (h2 : value.length ≤ 100000) (w : World) :
    Calls Tryz.prog 22 #[.string ⟨name.toArray⟩, .string ⟨value.toArray⟩] w fun e w' => e = .returned (.string ⟨(entT name value).toArray⟩) ∧ w' = w := by
  have HA1 := Lib.hid (fun W => add_text name [32, 61, 32] (by omega) (by simp) W)
  have HA2 := Lib.hid (fun W => add_text (name ++ [32, 61, 32]) value (by rw [List.length_append]; simp; omega) (by omega) W)
  have HE := Lib.hid (show (name ++ [32, 61, 32]) ++ value = entT name value from by rw [entT, List.append_assoc])
  rw [HE.out] at HA2
  have had1 := HA1.out
  have had2 := HA2.out
  rw [show ([32, 61, 32] : List UInt8).toArray = #[32, 61, 32] from rfl] at had1
  obtain ⟨S, hS⟩ : ∃ S : ByteArray, ⟨name.toArray⟩ = S := ⟨_, rfl⟩
  obtain ⟨V, hV⟩ : ∃ S : ByteArray, ⟨value.toArray⟩ = S := ⟨_, rfl⟩
  obtain ⟨U, hU⟩ : ∃ S : ByteArray, ⟨(name ++ [32, 61, 32]).toArray⟩ = S := ⟨_, rfl⟩
  obtain ⟨X, hX⟩ : ∃ S : ByteArray, ⟨(entT name value).toArray⟩ = S := ⟨_, rfl⟩
  rw [hS, hU] at had1
  rw [hU, hV, hX] at had2
  rw [hS, hV, hX]
  clear hS hV hU hX HA1 HA2 HE h1 h2
  go_enter Tryz.func22, Tryz.ntmps22
  go_wp2
  go_ret
  exact ⟨rfl, rfl⟩
end Go.Proofs.YtcbfchkhbngpkaaGreatDoor
namespace Go.Proofs.YtcbfchkhbngpkaaGreatDoor
open Go.RowKit

theorem join2_c (g c : Nat) (xs : List (List UInt8)) (w : World) (h : At w g 0 (xs.map strV)) (hg : g < w.heap.size) (hn : xs.length ≤ 1000) (hl : ∀ x ∈ xs, x.length ≤ 1000) (hc : xs.length ≤ c) :
    Calls Tryz.prog 26 #[.slice (some ⟨g, 0, none⟩) xs.length c, .string ⟨#[44, 32]⟩] w fun e w' => e = .returned (.string ⟨(Lib.join xs [44, 32]).toArray⟩) ∧ Below w.heap.size w w' := by
  have e1 : (xs.map fun l => ByteArray.mk l.toArray).length = xs.length := by simp
  have e2 : (xs.map fun l => ByteArray.mk l.toArray).map (·.data.toList) = xs := by rw [List.map_map]; exact (List.map_congr_left fun l _ => mk_data l).trans (List.map_id _)
  have e3 : Lib.join ((xs.map fun l => ByteArray.mk l.toArray).map (·.data.toList)) (ByteArray.mk #[44, 32]).data.toList = Lib.join xs [44, 32] := by rw [e2]
  have hj : ∀ ys : List (List UInt8), (∀ x ∈ ys, x.length ≤ 1000) → (Lib.join ys [44, 32]).length ≤ 1002 * ys.length := by
    intro ys
    induction ys with
    | nil => intro _; simp [Lib.join]
    | cons a r ih =>
      intro h2
      have ha := h2 a (List.mem_cons_self ..)
      have hr := ih fun x hx => h2 x (List.mem_cons_of_mem _ hx)
      cases r with
      | nil => simp [Lib.join]; omega
      | cons b r =>
        unfold Lib.join at hr ⊢
        rw [List.intercalate_cons_cons]
        simp only [List.length_append, List.length_cons, List.length_nil] at hr ⊢
        omega
  have hc2 := sh_strings_Join g 0 c (xs.map fun l => ByteArray.mk l.toArray) ⟨#[44, 32]⟩ w (fun j x hx => h j (.string x) (by
    rw [List.getElem?_map] at hx ⊢
    cases hq : xs[j]? with
    | none => rw [hq] at hx; cases hx
    | some y =>
      rw [hq] at hx
      rw [← Option.some.inj hx]; rfl)) hg (by rw [e1]; omega) (by rw [e1]; exact hc) (by rw [e3]; have := hj xs hl; omega)
  rw [e3, e1] at hc2
  exact hc2
set_option maxRecDepth 100000 in
set_option maxHeartbeats 8000000 in
theorem formatPrefixes_any (A : Option Addr) (n c : Nat) (l : List (AddrM × Int)) (w : World) (hlv : LvCf w) (hp : PfRd w w.heap.size A n l) (hn : n ≤ 1000) (h0 : 0 < n) :
    Calls Tryz.prog 51 #[.slice A n c] w fun e w' => e = .returned (.string ⟨(psT l).toArray⟩) ∧ Below w.heap.size w w' := by
  obtain ⟨i0, hti, hz0, hz1, hz2⟩ := info_parts (P := Tryz.prog) (e := 9) (z := .string ⟨#[]⟩) (size := 1) (bytes := 16) (by kernel_rfl)
  have HTI := Lib.hid (And.intro hti (And.intro hz0 (And.intro hz1 hz2)))
  obtain ⟨b, off, rfl⟩ := hp.1.addr h0
  have HPF := Lib.hid hp
  have HLV := Lib.hid hlv
  have HN := Lib.hid (show n ≤ 1000 ∧ 0 < n ∧ l.length = n from ⟨hn, h0, by have := hp.1.1; rwa [pfsV, List.length_map] at this⟩)
  obtain ⟨f, hf⟩ : ∃ f : AddrM × Int → List UInt8, (fun q : AddrM × Int => prefT q.1 q.2) = f := ⟨_, rfl⟩
  have HF := Lib.hid (fun q => congrFun hf q)
  have HPS := Lib.hid (show psT l = Lib.join (l.map f) [44, 32] from by rw [psT, hf])
  rw [HPS.out]
  have HZ1 := Lib.hid (show ∀ W : World, Blk (W.alloc (.cells (prefC addr0 0).toArray 60)) W.heap.size 60 (prefC addr0 0) from fun W => Blk.new W 60 (prefC addr0 0))
  clear hti hz0 hz1 hz2 hp hlv hf hn h0
  go_enter Tryz.func51, Tryz.ntmps51
  go_wp2_with fail
  go_loopw [3, 8] (fun v i wr => ∃ j : Nat, j ≤ n ∧ i = .int .i64 (j : Int) ∧ wr.ownsRow w.heap.size 9 1 v j ((l.take j).map fun q => strV (f q)) ∧ Below w.heap.size w wr) (fun _ i _ => n - (intOf i).toNat)
  case atStart => exact ⟨0, by omega, rfl, World.ownsRow_nil _ _ _ _, Below.refl _ _⟩
  case round =>
    obtain ⟨j, hj, rfl, hown, hW⟩ := hrel
    have HO := Lib.hid hown
    have HW := Lib.hid hW
    clear hown hW
    by_cases hjn : j < n
    · have d1 : decide ((j : Int) < (n : Int)) = true := by simp; omega
      obtain ⟨q, hq⟩ : ∃ q, l[j]? = some q := ⟨l[j]'(by rw [HN.out.2.2]; exact hjn), List.getElem?_eq_getElem _⟩
      have hok := HPF.out.2 q (List.mem_of_getElem? hq)
      have hat := HPF.out.1.at j (prefC q.1 q.2) (by rw [pfsV, List.getElem?_map, hq]; rfl)
      have HAT := Lib.hid (hat.2.mono HW.out hat.1)
      have HQ := Lib.hid (And.intro hq hok)
      obtain ⟨oc, hoc⟩ : ∃ z, (prefC q.1 q.2).toArray = z := ⟨_, rfl⟩
      have HOC := Lib.hid hoc
      have HZ := Lib.hid (HZ1.out wr)
      have hal := (Below.refl wr.heap.size wr).alloc (Nat.le_refl _) (.cells (prefC addr0 0).toArray 60)
      have HJ := Lib.hid (show j < n from hjn)
      clear hq hok hat hoc
      go_upto_region 5 with (first | ((with_reducible refine at_op (.load 60 (.tmp 10)) rfl ?_); refine wpList_load_obj rfl 60 (.tmp 10) rfl b _ rfl _ HAT.out _ Tryz.underlying60 rfl (pref_cellsOf' q.1 HQ.out.2.1 q.2) ?_; rw [HOC.out]) | ((with_reducible refine at_op (.store 60 (.tmp 5) (.tmp 11)) rfl ?_); refine wpList_store_obj rfl 60 (.tmp 5) (.tmp 11) rfl wr.heap.size 0 (prefC q.1 q.2) rfl (by show Value.agg oc = _; rw [HOC.out]) 60 (prefC addr0 0) HZ.out (pref_cellsOf' q.1 HQ.out.2.1 q.2) (by rw [prefC_length q.1 HQ.out.2.1]; decide) (pref_oneR q.1 q.2) ?_; intro w2 hb2 hg2))
      rw [setL_all _ _ (by rw [prefC_length q.1 HQ.out.2.1]; rfl)] at hb2
      have hbl2 : Below wr.heap.size wr w2 := hal.grown hg2 (by simp) (by intro k hk; injection hk with hk; omega)
      have HB2 := Lib.hid hb2
      have HW2 := Lib.hid (HW.out.trans (hbl2.mono HW.out.size))
      have HO2 := Lib.hid (own_below HO.out hbl2)
      have HFP := Lib.hid (cfFmtPrefC q.1 HQ.out.2.1 q.2 HQ.out.2.2.1 HQ.out.2.2.2 w2 (HLV.out.below HW2.out))
      rw [HOC.out, HF.out q] at HFP
      have HFL := Lib.hid (show (f q).length ≤ 1000 from by rw [← HF.out q]; exact Nat.le_trans (prefT_le _ _ HQ.out.2.2.2) (by omega))
      have HS := Lib.hid (show (l.take (j + 1)).map (fun q => strV (f q)) = (l.take j).map (fun q => strV (f q)) ++ [strV (f q)] from by rw [take_snoc HQ.out.1, List.map_append]; rfl)
      generalize wr.heap.size = g2 at HB2 ⊢
      clear hb2 hg2 hbl2 hal HZ HAT HO HW
      obtain ⟨s, hs⟩ : ∃ z, f q = z := ⟨_, rfl⟩
      rw [hs] at HFP HS HFL
      clear hs
      go_wp2_with ((with_reducible refine at_op (.load 60 (.tmp 5)) rfl ?_); refine wpList_load_obj rfl 60 (.tmp 5) rfl g2 0 rfl _ HB2.out.all _ Tryz.underlying60 rfl (pref_cellsOf' q.1 HQ.out.2.1 q.2) ?_; rw [HOC.out])
      refine HFP.out.mono ?_
      rintro e w3 ⟨rfl, hb⟩
      have HW3 := Lib.hid (HW2.out.trans (hb.mono HW2.out.size))
      have HO3 := Lib.hid (own_below HO2.out hb)
      clear hb HFP
      obtain ⟨j2, hj2⟩ : ∃ z, j + 1 = z := ⟨_, rfl⟩
      have e8 : (j : Int) + 1 = (j2 : Int) := by omega
      have w8' : IntKind.i64.wrap (j2 : Int) = (j2 : Int) := by have := HN.out; rw [IntKind.wrap_i64]; omega
      have HJ2 := Lib.hid (show j2 ≤ n ∧ n - j2 < n - j ∧ j2 = j + 1 from by omega)
      clear hj2 hj hjn d1
      go_wp2_with (at_builtin; refine wpList_append_own _ rfl (.tmp 12) (.tmp 15) 43 rfl w.heap.size 9 i0 (.string ⟨#[]⟩) 1 16 Tryz.underlying43 HTI.out.1 HTI.out.2.1 HTI.out.2.2.1 HTI.out.2.2.2 rfl (by omega) _ j _ rfl (HO3.out.alloc _) ⟨w3.heap.size, 0, none⟩ 1 1 [.string ⟨s.toArray⟩] rfl rfl (cell_str _ _ _) (fun u hu => by simp only [List.mem_singleton] at hu; subst hu; rfl) (by have := HN.out; have := HJ.out; unfold maxLen; omega) (by have := HN.out; have := HJ.out; omega) (by have := HW3.out.size; simp; omega) ?_; intro v' w' hown' hg' _)
      have HW4 := Lib.hid ((HW3.out.trans (((Below.refl _ _).alloc (Nat.le_refl _) _).mono HW3.out.size)).grown hg' (by have := HW3.out.size; simp; omega) (fun k e => (own_lt HO3.out e).1))
      have HO4 := Lib.hid hown'
      clear hown' hg'
      go_wp2
      go_roundw
      case rel => exact ⟨j2, HJ2.out.1, rfl, by rw [HJ2.out.2.2, HS.out]; exact HO4.out, HW4.out⟩
      case measure => simp [intOf]; exact HJ2.out.2.1
    · obtain rfl : j = n := by omega
      have d1 : decide ((j : Int) < (j : Int)) = false := by simp
      have htk : l.take j = l := List.take_of_length_le (by rw [HN.out.2.2]; exact Nat.le_refl _)
      have hown := HO.out
      rw [htk] at hown
      have hown2 : wr.ownsRow w.heap.size 9 1 u3 (l.map f).length ((l.map f).map strV) := by
        rw [List.length_map, HN.out.2.2, List.map_map]
        exact hown
      obtain ⟨A8, k, hk, hA⟩ := own_slice hown
      subst hk
      obtain ⟨g, rfl⟩ := (own_addr hown).2.2 HN.out.2.1
      have hl4 : (l.map f).length = j := by rw [List.length_map]; exact HN.out.2.2
      have HJ := Lib.hid (join2_c g k (l.map f) wr (by rw [hl4] at hown2; exact own_at hown2) (own_top hown) (by rw [hl4]; exact HN.out.1) (fun x hx => by
        obtain ⟨q, hq, rfl⟩ := List.mem_map.1 hx
        rw [← HF.out q]
        exact Nat.le_trans (prefT_le _ _ (HPF.out.2 q hq).2.2) (by omega)) (by rw [hl4]; exact (own_addr hown).1))
      rw [hl4] at HJ
      have HW9 := Lib.hid HW.out
      clear hown hown2 hA htk HO HW
      go_wp2_with fail
      refine HJ.out.mono ?_
      rintro e w6 ⟨rfl, hb⟩
      have HW8 := Lib.hid (HW9.out.trans (hb.mono HW9.out.size))
      clear hb HJ
      go_wp2
      go_ret
      exact ⟨rfl, HW8.out⟩
end Go.Proofs.YtcbfchkhbngpkaaGreatDoor
