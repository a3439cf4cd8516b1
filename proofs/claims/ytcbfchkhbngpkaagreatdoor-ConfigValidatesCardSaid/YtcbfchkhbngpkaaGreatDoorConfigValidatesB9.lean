/-
  The choices' Config: a peer that is being made, and how it goes into the list. A row of peers of the call's own whose prefixes lie elsewhere. The contract of the reference's Decimal. Words on rows that a call makes, and pieces of texts. A hexadecimal digit cut from a text. The contract of the reference's group. The contract of the reference's FormatAddr. The contracts of the reference's FormatEndpoint and FormatPrefix. A struct that is built under a guard. The contract of the reference's right. Keys as cells. No statement is proved here.
-/
import Derived.Laws.Concat
import Derived.Deep.DeepCutAuto
import Derived.RegionTactic
import Derived.BigRegion
import Derived.Outline
import Derived.Lib.SmallJoins
import Derived.Lib.Strings
import Derived.Test.YtcbfchkhbngpkaaGreatDoorConfigValidatesB8
namespace Go.Proofs.YtcbfchkhbngpkaaGreatDoor
open Go.RowKit

section
variable {w W W' : World} {g : Nat} {A : Option Addr} {n c : Nat} {l : List UInt8} {B p : Nat}
theorem CodesAt.keptBut (h : CodesAt W g A n c l B p) {b : Nat} (hg : KeptBut W W' b) (hb : g < b) : CodesAt W' g A n c l B p :=
  ⟨by have := h.blk; unfold Blk at *; rw [hg.2 g h.lt (by omega)]; exact this, h.rd.keep (fun q hq => World.cell?_of_block (hg.2 q.block (by have := h.le; have := h.lt; omega) (by have := h.le; omega))), h.le, Nat.lt_of_lt_of_le h.lt hg.1, h.small, h.pos⟩
theorem PrAt.next {g8 : Nat} {F : List Dep} {va : Value} {pm : PeerM} (h : PrAt w g A n c l B g8 F va pm W) (hgl : g < w.heap.size) {q : Nat} (hc : CodesAt W' g A n c l B q) (hg : W.grownBy W' (some g)) : PrAt w g A n c l B g8 F va pm W' :=
  ⟨⟨q, hc⟩, h.hd.other (.of_grown hg) hgl, below_codes h.bel hgl hg, h.ok⟩
theorem PrAt.put {g8 : Nat} {F : List Dep} {va : Value} {pm pm' : PeerM} (h : PrAt w g A n c l B g8 F va pm W) (hgl : g < w.heap.size) (hg : W.grownBy W' (some g8)) (hb : Blk W' g8 57 (pm'.cells va)) (hok : pm'.ok) (hal : pm'.al = pm.al) : PrAt w g A n c l B g8 F va pm' W' := by
  have h8 := h.hd.at 0 rfl (k := g8) (by simp [blkD])
  have hs := h.bel.size
  obtain ⟨q, hc⟩ := h.codes
  exact ⟨⟨q, hc.keptBut (.of_grown hg) (by omega)⟩, by rw [hal]; exact h.hd.put (by omega) (.of_grown hg) hb, h.bel.grown hg (by omega) (by intro k hk; injection hk with hk; omega), hok⟩
theorem grown_cell (W : World) (g j : Nat) (v : Value) : W.grownBy (W.setCell ⟨g, j, none⟩ v) (some g) := ⟨rfl, rfl, rfl, by simp [World.setCell], fun k _ hne => Below.heap_setCell W ⟨g, j, none⟩ v k (fun e => hne (by simp [e]))⟩
theorem PrAt.blk {g8 : Nat} {F : List Dep} {va : Value} {pm : PeerM} (h : PrAt w g A n c l B g8 F va pm W) : Blk W g8 57 (pm.cells va) := h.hd.blk 0 rfl
end
theorem peer_at {p : PeerM} (h : p.ok) (v : Value) : (p.cells v)[64]? = some (.bool p.hasE) ∧ (p.cells v)[83]? = some (.int .i64 p.keep) ∧ (p.cells v)[84]? = some v := by
  have h1 : (p.pub.map u8v).length = 32 := by rw [List.length_map, h.1]
  have h2 : (p.sha.map u8v).length = 32 := by rw [List.length_map, h.2.1]
  have h3 := prefC_length p.ea h.2.2.1 p.ep
  refine ⟨?_, ?_, ?_⟩
  · rw [PeerM.cells, List.getElem?_append_right (by omega), List.getElem?_append_right (by omega), h1, h2]; rfl
  · rw [PeerM.cells, List.getElem?_append_right (by omega), List.getElem?_append_right (by omega), h1, h2, show 83 - 32 - 32 = 18 + 1 from rfl, List.getElem?_cons_succ, List.getElem?_append_right (by omega), h3]; rfl
  · rw [PeerM.cells, List.getElem?_append_right (by omega), List.getElem?_append_right (by omega), h1, h2, show 84 - 32 - 32 = 19 + 1 from rfl, List.getElem?_cons_succ, List.getElem?_append_right (by omega), h3]; rfl
/-- what is known of a peer that is being made -/
structure PrOk (k0 : List UInt8) (p : PeerM) : Prop where
  pub : p.pub = k0
  al : p.al = []
  e : rightE p = true
  k : rightK p.keep = true
theorem PrOk.zero (k0 : List UInt8) : PrOk k0 { peer0 with pub := k0 } := ⟨rfl, rfl, by simp [rightE, peer0], rfl⟩
theorem PrOk.sha {k0 : List UInt8} {p : PeerM} (h : PrOk k0 p) (s : List UInt8) : PrOk k0 { p with sha := s } := ⟨h.pub, h.al, h.e, h.k⟩
theorem PrOk.endp {k0 : List UInt8} {p : PeerM} (h : PrOk k0 p) {a : AddrM} (ha : soundM a = true) {r : Nat} (h1 : 1 ≤ r) (h2 : r ≤ 65535) : PrOk k0 { p with hasE := true, ea := a, ep := (r : Int) } := ⟨h.pub, h.al, by
  have := addrT_ne ha
  have h3 : endT a (r : Int) ≠ [] := by
    rw [endT, if_neg (by simp only [this, false_or]; omega)]
    simp
  simpa [rightE] using h3, h.k⟩
theorem PrOk.keepK {k0 : List UInt8} {p : PeerM} (h : PrOk k0 p) {r : Nat} (h1 : 1000 ≤ r) (h2 : r ≤ 31000) : PrOk k0 { p with keep := (r : Int) } := ⟨h.pub, h.al, h.e, by
  simp only [rightK, Bool.or_eq_true, Bool.and_eq_true, decide_eq_true_eq]
  exact .inr ⟨by omega, by omega⟩⟩
theorem PeerM.ok.setSha {p : PeerM} (h : p.ok) {s : List UInt8} (hs : s.length = 32) : ({ p with sha := s } : PeerM).ok := ⟨h.1, hs, h.2.2⟩
theorem PeerM.ok.setEnd {p : PeerM} (h : p.ok) {a : AddrM} (ha : a.ok) {r : Int} (hr : inI64 r) : ({ p with ea := a, ep := r } : PeerM).ok := ⟨h.1, h.2.1, ha, hr, h.2.2.2.2⟩
theorem PeerM.ok.setKeep {p : PeerM} (h : p.ok) {r : Int} (hr : inI64 r) : ({ p with keep := r } : PeerM).ok := ⟨h.1, h.2.1, h.2.2.1, h.2.2.2.1, hr, h.2.2.2.2.2⟩
theorem fm_cons {α β : Type} (f : α → Option β) (x : α) (l : List α) : (x :: l).filterMap f = (f x).toList ++ l.filterMap f := by
  cases h : f x <;> simp [h]
theorem fm_snoc {α β : Type} (f : α → Option β) (x : α) (l : List α) : (l ++ [x]).filterMap f = l.filterMap f ++ (f x).toList := by
  rw [List.filterMap_append, fm_cons]; simp
theorem peersV_snoc {ps : List PeerM} {vs : List Value} (hl : vs.length = ps.length) (p : PeerM) (v : Value) : peersV (ps ++ [p]) (vs ++ [v]) = peersV ps vs ++ [p.cells v] := by
  rw [peersV, peersV, List.zipWith_append hl.symm]; rfl
theorem HeapD.sep {base : Nat} {E : List Dep} {e : Dep} {W : World} (h : HeapD base (e :: E) W) {a b : Nat} (ha : a ∈ e.bs) {i : Nat} {e' : Dep} (hi : E[i]? = some e') (hb : b ∈ e'.bs) : a ≠ b := fun he => by
  have h2 := h.2.2
  simp only [depB, List.flatMap_cons, List.nodup_append] at h2
  exact h2.2.2 a ha b (List.mem_flatMap.2 ⟨e', List.mem_of_getElem? hi, hb⟩) he
theorem HeapD.tail' {base : Nat} {F : List Dep} {W : World} {B n c : Nat} {A : Option Addr} {x : AddrM × Int} {l : List (AddrM × Int)} (hn : 0 < n) (h : HeapD base (pfD B A n (x :: l) :: F) W) (hbw : base ≤ W.heap.size) (hc : n ≤ c) : HeapD base (pfD B (addrK A 1 c 18) (n - 1) l :: F) W := by
  obtain ⟨m, rfl⟩ : ∃ m, n = m + 1 := ⟨n - 1, by omega⟩
  exact h.tail hbw hc
theorem pfsV_app1 (al : List (AddrM × Int)) (x : AddrM × Int) : (pfsV (al ++ [x])).flatten = (pfsV al).flatten ++ [prefC x.1 x.2].flatten := by simp [pfsV]
theorem peerInfo : ∃ i z, Tryz.prog.info? 57 = some i ∧ i.zero = some z ∧ z.cells.size = 85 ∧ i.size = 85 ∧ i.bytes = 136 := by
  have h : (Tryz.prog.info? 57).map (fun i => (i.zero.map (fun z => z.cells.size), i.size, i.bytes)) = some (some 85, 85, 136) := by kernel_rfl
  cases hi : Tryz.prog.info? 57 with
  | none => rw [hi] at h; cases h
  | some i =>
    rw [hi] at h
    simp only [Option.map_some, Option.some.injEq, Prod.mk.injEq] at h
    cases hz : i.zero with
    | none => rw [hz] at h; simp at h
    | some z =>
      rw [hz] at h
      exact ⟨i, z, rfl, hz, by simpa using h.1, h.2.1, h.2.2⟩
theorem conf_at {x : ConfM} (h : x.ok) (v : Value) : (x.cells v)[33]? = some v := by
  have h1 : (x.priv.map u8v).length = 32 := by rw [List.length_map, h.1]
  rw [ConfM.cells, List.getElem?_append_right (by omega), h1]; rfl
theorem conf_set_peers {x : ConfM} (h : x.ok) (v v' : Value) : (x.cells v).set 33 v' = x.cells v' := by
  have h1 : (x.priv.map u8v).length = 32 := by rw [List.length_map, h.1]
  rw [ConfM.cells, List.set_append_right _ _ (by omega), h1]; rfl
theorem PrOk.right {k0 : List UInt8} {p : PeerM} (h : PrOk k0 p) {al : List (AddrM × Int)} (ha : ∀ q ∈ al, validM q.1 q.2 = true) : rightP { p with al := al } = true := by
  have h1 := h.e
  have h2 := h.k
  simp only [rightE] at h1
  simp only [rightP, rightE, Bool.and_eq_true, List.all_eq_true]
  exact ⟨⟨h1, h2⟩, ha⟩
theorem GoodC.rest2 {m i : Nat} {ps : List PeerM} {al rl : List (AddrM × Int)} (h : GoodC m i ps (al ++ rl)) (x : AddrM × Int) (hx : x ∈ al) : (x.1.ok ∧ inI64 x.2) ∧ validM x.1 x.2 = true := by
  have := h.rest x (List.mem_append_left _ hx)
  exact ⟨this.1, this.2⟩
theorem pfB_mem {A : Option Addr} {b off n : Nat} (hA : A = some ⟨b, off, none⟩) (hn : 0 < n) : b ∈ pfB A n := by
  rw [pfB, if_neg (by omega), hA]; simp
/-- a row grows, the choices are as they were -/
theorem CodesAt.grownBy {W W' : World} {g : Nat} {A : Option Addr} {n c : Nat} {l : List UInt8} {B p : Nat} (h : CodesAt W g A n c l B p) {o : Option Nat} (hg : W.grownBy W' o) (ho : ∀ k, o = some k → g < k) : CodesAt W' g A n c l B p := by
  cases o with
  | none => exact h.below ((Below.refl _ _).grown hg (Nat.le_refl _) (fun b hb => by cases hb))
  | some b => exact h.put hg (ho b rfl)
/-- a peer goes into the list -/
theorem HeapD.peer {base : Nat} {F : List Dep} {W W' : World} {v v' va : Value} {Bs : List Nat} {ps : List PeerM} {p : PeerM} {vs : List Value}
    (h : HeapD base (peersD base Bs v ps :: ownD base 60 18 va p.al.length (pfsV p.al).flatten :: F) W) (hbw : base ≤ W.heap.size) (hl : vs.length = ps.length) (hr : ∀ (i : Nat) (q : PeerM) (x : Value), ps[i]? = some q → vs[i]? = some x → W.ownsRow base 60 18 x q.al.length (pfsV q.al).flatten) (hB : (v :: vs).filterMap Value.ownBlock = Bs)
    (ho : W'.ownsRow base 57 85 v' (ps.length + 1) ((peersV ps vs).flatten ++ [p.cells va].flatten)) (hg : W.grownBy W' v.ownBlock) (hv : v'.ownBlock = v.ownBlock ∨ v'.ownBlock = some W.heap.size) : ∃ Bs', HeapD base (peersD base Bs' v' (ps ++ [p]) :: F) W' := by
  have hT : depB [peersD base Bs v ps, ownD base 60 18 va p.al.length (pfsV p.al).flatten] = Bs ++ va.ownBlock.toList := by simp [depB, peersD, ownD]
  have hnd : (Bs ++ va.ownBlock.toList).Nodup := by
    have := h.2.2
    rw [show peersD base Bs v ps :: ownD base 60 18 va p.al.length (pfsV p.al).flatten :: F = [peersD base Bs v ps, ownD base 60 18 va p.al.length (pfsV p.al).flatten] ++ F from rfl, depB, List.flatMap_append, List.nodup_append] at this
    have h1 := this.1
    rwa [show List.flatMap _ _ = depB [peersD base Bs v ps, ownD base 60 18 va p.al.length (pfsV p.al).flatten] from rfl, hT] at h1
  have hlt : ∀ k ∈ Bs ++ va.ownBlock.toList, k < W.heap.size := fun k hk => by
    rw [← hT] at hk
    obtain ⟨e, he, hke⟩ := List.mem_flatMap.1 hk
    refine (h.2.1 k (List.mem_flatMap.2 ⟨e, ?_, hke⟩)).2
    simp only [List.mem_cons, List.not_mem_nil, or_false] at he
    rcases he with rfl | rfl <;> simp
  have hva := h.own 1 rfl
  rw [← hB, fm_cons] at hnd hlt
  rw [List.append_assoc, List.nodup_append] at hnd
  have hsep : ∀ k, some k = v.ownBlock → ∀ b ∈ vs.filterMap Value.ownBlock ++ va.ownBlock.toList, b ≠ k := fun k hk b hb e => hnd.2.2 k (by rw [← hk]; simp) b hb e.symm
  have hkeep : ∀ (x : Value), (∀ k, x.ownBlock = some k → k ∈ vs.filterMap Value.ownBlock ++ va.ownBlock.toList) → ∀ k, x.ownBlock = some k → W'.heap[k]? = W.heap[k]? := fun x hx k hk =>
    hg.block k (hlt k (by rw [List.append_assoc]; exact List.mem_append_right _ (hx k hk))) (fun e => hsep k e k (hx k hk) rfl)
  refine ⟨v'.ownBlock.toList ++ (vs.filterMap Value.ownBlock ++ va.ownBlock.toList), HeapD.re (T := [peersD base Bs v ps, ownD base 60 18 va p.al.length (pfsV p.al).flatten]) (F := F) h [peersD base _ v' (ps ++ [p])] hg.size hbw (fun k hk hn => hg.block k hk (fun e => hn ?_)) ?_ (fun k hk => ?_) ?_⟩
  · rw [hT, ← hB, fm_cons, ← e]
    simp
  · intro e he
    rw [List.mem_singleton] at he
    subst he
    refine ⟨vs ++ [va], by simp [hl], ?_, fun i q x hq hx => ?_, by rw [fm_cons, fm_snoc]⟩
    · rw [peersV_snoc hl, List.flatten_append, List.length_append, List.length_singleton]
      exact ho
    · by_cases hi : i < ps.length
      · rw [List.getElem?_append_left hi] at hq
        rw [List.getElem?_append_left (by omega)] at hx
        exact own_kept (hr i q x hq hx) (hkeep x fun k hk => List.mem_append_left _ (List.mem_filterMap.2 ⟨x, List.mem_of_getElem? hx, hk⟩))
      · have hi2 : i = ps.length := by
          have := (List.getElem?_eq_some_iff.1 hq).1
          simp at this
          omega
        subst hi2
        rw [List.getElem?_append_right (Nat.le_refl _), Nat.sub_self] at hq
        rw [← hl, List.getElem?_append_right (Nat.le_refl _), Nat.sub_self] at hx
        injection hq with hq
        injection hx with hx
        subst hq hx
        exact own_kept hva (hkeep va fun k hk => by rw [hk]; simp)
  · have hk2 : k ∈ v'.ownBlock.toList ++ (vs.filterMap Value.ownBlock ++ va.ownBlock.toList) := by simpa [depB, peersD] using hk
    rw [hT, ← hB, fm_cons]
    rcases List.mem_append.1 hk2 with h1 | h1
    · rcases hv with hv | hv
      · rw [hv] at h1
        exact .inl (by simp only [List.mem_append]; exact .inl (.inl h1))
      · rw [hv] at h1
        have : k = W.heap.size := by simpa using h1
        exact .inr ⟨by omega, (own_lt ho (by rw [hv, this])).2⟩
    · exact .inl (by rw [List.append_assoc]; exact List.mem_append_right _ h1)
  · have hx : (v'.ownBlock.toList ++ (vs.filterMap Value.ownBlock ++ va.ownBlock.toList)).Nodup := by
      rw [List.nodup_append]
      refine ⟨by cases v'.ownBlock <;> simp, hnd.2.1, fun a ha b hb e => ?_⟩
      subst e
      rcases hv with hv | hv
      · rw [hv] at ha
        exact hnd.2.2 a ha a hb rfl
      · rw [hv] at ha
        have : a = W.heap.size := by simpa using ha
        have := hlt a (by rw [List.append_assoc]; exact List.mem_append_right _ hb)
        omega
    simpa [depB, peersD] using hx
/-- a peer that is being made takes prefixes of those that are left -/
structure KAt (w : World) (g : Nat) (A : Option Addr) (n c : Nat) (l : List UInt8) (B : Nat) (g8 m i : Nat) (ps : List PeerM) (F2 : List Dep) (pm : PeerM) (k : Nat) (A2 : Option Addr) (n2 c2 : Nat) (W : World) : Prop where
  ex : ∃ (p B0 : Nat) (al rl : List (AddrM × Int)) (va : Value), rl.length = n2 ∧ CodesAt W g A n c l B p ∧ GoodC m i ps (al ++ rl) ∧ al.length + k ≤ 2 ∧
    HeapD w.heap.size (pfD B0 A2 n2 rl :: ownD w.heap.size 60 18 va al.length (pfsV al).flatten :: blkD g8 57 (pm.cells va) :: F2) W
  bel : Below g w W
  cap : n2 ≤ c2
theorem PrAt.kAt {w W : World} {g : Nat} {A : Option Addr} {n c : Nat} {l : List UInt8} {B g8 m i : Nat} {ps : List PeerM} {pm : PeerM} {d1 d2 d3 : Dep} {B0 : Nat} {A2 : Option Addr} {n2 c2 k : Nat} {rl : List (AddrM × Int)}
    (h : PrAt w g A n c l B g8 [d1, d2, pfD B0 A2 n2 rl, d3] (.slice none 0 0) pm W) (ha : pm.al = []) (hk : k ≤ 2) (hg : GoodC m i ps rl) (hl : rl.length = n2) (hc : n2 ≤ c2) : KAt w g A n c l B g8 m i ps [d1, d2, d3] pm k A2 n2 c2 W := by
  obtain ⟨⟨p, hp⟩, hd, hb, _⟩ := h
  rw [ha] at hd
  have h1 := (((((hd.pull 5 rfl).pull 4 rfl).pull 4 rfl).pull 3 rfl).pull 4 rfl).pull 5 rfl
  exact ⟨⟨p, B0, [], rl, _, hl, hp, hg, by simpa using hk, h1⟩, hb, hc⟩
/-- one of two operations is a load -/
theorem load_or {P : Program} {md : Region.Mode} {ops : Array Oper} {Q : Exit → Act → World → Prop} {S : World → Prop} {r r' : List Oper} {oi oj : Oper} {v : Value} {fuel : Nat} {listed : Array Bool} {a : Act} {w : World} (i j : Nat) (hi : ops.toList.drop i = oi :: r) (hj : ops.toList.drop j = oj :: r')
    (hr : Region.ready md ops listed = [i, j]) (hy : YieldsIf P ops (fun W => W = w) oi v a) (hS : S w)
    (h1 : wpAnyH P md ops Q S fuel (listed.setIfInBounds i true) (a.put oi.dst v) w)
    (h2 : ∀ K' : Act → World → Prop, Shut (∀ a w, S w → (S w → wpAnyH P md ops Q S fuel (listed.setIfInBounds j true) a w) → K' a w) → if Region.wanted oj (yielded ops a.tmps) = true then Oper.wp P oj a w K' Q else K' (a.put oj.dst undef) w) :
    wpAnyH P md ops Q S (fuel + 1) listed a w :=
  wpAnyH_ready hr (by simp) fun x hx => by
    rcases List.mem_cons.1 hx with rfl | hx
    · exact hy.wpOp (getElem?_of_drop hi) rfl ⟨hS, h1⟩
    · exact AllReadyH.cons (getElem?_of_drop hj) h2 AllReadyH.nil x hx
/-- the one operation that may come up is a load -/
theorem load_one {P : Program} {md : Region.Mode} {ops : Array Oper} {Q : Exit → Act → World → Prop} {S : World → Prop} {r : List Oper} {oi : Oper} {v : Value} {fuel : Nat} {listed : Array Bool} {a : Act} {w : World} (i : Nat) (hi : ops.toList.drop i = oi :: r)
    (hr : Region.ready md ops listed = [i]) (hy : YieldsIf P ops (fun W => W = w) oi v a) (hS : S w)
    (h1 : wpAnyH P md ops Q S fuel (listed.setIfInBounds i true) (a.put oi.dst v) w) : wpAnyH P md ops Q S (fuel + 1) listed a w :=
  wpAnyH_ready hr (by simp) fun x hx => by
    rw [List.mem_singleton] at hx
    subst hx
    exact hy.wpOp (getElem?_of_drop hi) rfl ⟨hS, h1⟩
end Go.Proofs.YtcbfchkhbngpkaaGreatDoor
namespace Go.Proofs.YtcbfchkhbngpkaaGreatDoor
open Go.RowKit

theorem setL_left {α : Type} (a t : List α) (f : Nat) (xs : List α) (h : f + xs.length ≤ a.length) : setL (a ++ t) f xs = setL a f xs ++ t := by
  rw [setL, setL, List.take_append_of_le_length (by omega), List.drop_append_of_le_length h]
  simp
theorem setL_right {α : Type} (a t : List α) (q : Nat) (xs : List α) : setL (a ++ t) (a.length + q) xs = a ++ setL t q xs := by
  rw [setL, setL, List.take_length_add_append, Nat.add_assoc, List.drop_length_add_append]
  simp
theorem set_setL {α : Type} (l : List α) (i : Nat) (v : α) (h : i < l.length) : l.set i v = setL l i [v] := by
  rw [setL, List.set_eq_take_append_cons_drop, if_pos h]
  simp
theorem flat_part {k : Nat} {rest : List Value} : ∀ {cs : List (List Value)}, (∀ o ∈ cs, o.length = k) → ∀ (j : Nat) (o : List Value), cs[j]? = some o → ∀ (f : Nat) (xs : List Value), f + xs.length ≤ k → setL (cs.flatten ++ rest) (j * k + f) xs = (cs.set j (setL o f xs)).flatten ++ rest
  | [], _, j, o, hj, _, _, _ => by simp at hj
  | a :: r, h, 0, o, hj, f, xs, hf => by
    simp only [List.getElem?_cons_zero, Option.some.injEq] at hj
    subst hj
    have ha := h a (List.mem_cons_self ..)
    rw [Nat.zero_mul, Nat.zero_add, List.set_cons_zero, List.flatten_cons, List.flatten_cons, List.append_assoc, List.append_assoc, setL_left _ _ _ _ (by omega)]
  | a :: r, h, j + 1, o, hj, f, xs, hf => by
    have ha := h a (List.mem_cons_self ..)
    have ih := flat_part (rest := rest) (fun x hx => h x (List.mem_cons_of_mem _ hx)) j o (by simpa using hj) f xs hf
    rw [List.set_cons_succ, List.flatten_cons, List.flatten_cons, List.append_assoc, List.append_assoc, ← ih, Nat.succ_mul, show j * k + k + f = a.length + (j * k + f) by omega, setL_right]
theorem peersV_set (ps : List PeerM) (vs : List Value) (j : Nat) (p : PeerM) (x : Value) : peersV (ps.set j p) (vs.set j x) = (peersV ps vs).set j (p.cells x) := by
  induction ps generalizing vs j with
  | nil => simp [peersV]
  | cons a r ih =>
    cases vs with
    | nil => cases j <;> simp [peersV]
    | cons b s =>
      cases j with
      | zero => simp [peersV]
      | succ j => exact congrArg (a.cells b :: ·) (ih s j)
/-- the prefixes of a peer lie in memory, and in none of the blocks of no -/
def PfO (W : World) (no : List Nat) (p : PeerM) (x : Value) : Prop :=
  ∃ A c, x = .slice A p.al.length c ∧ p.al.length ≤ c ∧ c ≤ maxLen ∧ PfRd W W.heap.size A p.al.length p.al ∧ (0 < p.al.length → ∀ b off, A = some ⟨b, off, none⟩ → b ∉ no)
theorem PfRd.keptO {W W' : World} {A : Option Addr} {n : Nat} {l : List (AddrM × Int)} (h : PfRd W W.heap.size A n l) (hs : W.heap.size ≤ W'.heap.size) (hk : 0 < n → ∀ b off, A = some ⟨b, off, none⟩ → b < W.heap.size → W'.heap[b]? = W.heap[b]?) : PfRd W' W'.heap.size A n l :=
  ⟨⟨h.1.1, h.1.2.1, fun h0 => by
    obtain ⟨b, off, e, hlt, hc⟩ := h.1.2.2 h0
    exact ⟨b, off, e, by omega, fun j v hv => (World.cell?_of_block (hk h0 b off e hlt)).trans (hc j v hv)⟩⟩, h.2⟩
theorem PfO.grown {W W' : World} {no : List Nat} {k : Nat} {p : PeerM} {x : Value} (h : PfO W no p x) (hg : W.grownBy W' (some k)) (hk : k ∈ no) : PfO W' no p x := by
  obtain ⟨A, c, e, h1, h2, h3, h4⟩ := h
  exact ⟨A, c, e, h1, h2, h3.keptO hg.size (fun h0 b off hA hb => hg.block b hb (fun e2 => by injection e2 with e2; exact h4 h0 b off hA (e2 ▸ hk))), h4⟩
theorem PfO.less {W : World} {no no' : List Nat} {p : PeerM} {x : Value} (h : PfO W no p x) (hs : ∀ k ∈ no', k ∈ no) : PfO W no' p x := by
  obtain ⟨A, c, e, h1, h2, h3, h4⟩ := h
  exact ⟨A, c, e, h1, h2, h3, fun h0 b off hA hm => h4 h0 b off hA (hs b hm)⟩
theorem PfO.below {W W' : World} {no : List Nat} {p : PeerM} {x : Value} (h : PfO W no p x) (hb : Below W.heap.size W W') : PfO W' no p x := by
  obtain ⟨A, c, e, h1, h2, h3, h4⟩ := h
  exact ⟨A, c, e, h1, h2, h3.keptO hb.size (fun _ b _ _ hlt => hb.block b hlt), h4⟩
/-- the row is made anew -/
theorem PfO.fresh {W : World} {no : List Nat} {p : PeerM} {x : Value} (h : PfO W no p x) : PfO W (W.heap.size :: no) p x := by
  obtain ⟨A, c, e, h1, h2, h3, h4⟩ := h
  refine ⟨A, c, e, h1, h2, h3, fun h0 b off hA hm => ?_⟩
  rcases List.mem_cons.1 hm with he | hm
  · obtain ⟨b', off', e', hlt, _⟩ := h3.1.2.2 h0
    rw [hA] at e'
    simp only [Option.some.injEq, Addr.mk.injEq] at e'
    omega
  · exact h4 h0 b off hA hm
/-- a part of the prefixes -/
theorem PfO.ahead {W : World} {no : List Nat} {p : PeerM} {A : Option Addr} {c : Nat} (h : PfO W no p (.slice A p.al.length c)) (m : Nat) (hm : m ≤ p.al.length) : PfO W no { p with al := p.al.take m } (.slice (addrK A 0 c 18) m c) := by
  obtain ⟨A', c', e, h1, h2, h3, h4⟩ := h
  injection e with eA en ec
  subst eA ec
  have hl : (p.al.take m).length = m := by rw [List.length_take]; omega
  refine ⟨addrK A 0 c 18, c, by rw [hl], by simp only [hl]; omega, h2, ?_, fun h0 b off hA => ?_⟩
  · simp only [hl]
    refine ⟨?_, fun q hq => h3.2 q (List.mem_of_mem_take hq)⟩
    have := h3.1.ahead m c hm
    rwa [show pfsV (p.al.take m) = (pfsV p.al).take m from by rw [pfsV, pfsV, List.map_take]]
  · simp only [hl] at h0
    obtain ⟨b', off', e', _⟩ := h3.1.2.2 (by omega)
    subst e'
    rw [addrK_zero_some] at hA
    simp only [Option.some.injEq, Addr.mk.injEq] at hA
    exact hA.1 ▸ h4 (by omega) b' off' rfl
/-- the row's own block -/
structure RowAt (base : Nat) (no : List Nat) (W : World) (g c : Nat) (rest : List Value) (ps : List PeerM) (vs : List Value) : Prop where
  low : base ≤ g
  le : ps.length ≤ c
  max : c ≤ maxLen
  len : vs.length = ps.length
  size : ps.length * 85 + rest.length = c * 85
  blk : Blk W g 57 ((peersV ps vs).flatten ++ rest)
  ok : ∀ p ∈ ps, p.ok
  pf : ∀ (i : Nat) (p : PeerM) (x : Value), ps[i]? = some p → vs[i]? = some x → PfO W (g :: no) p x
def RowOk (base : Nat) (no : List Nat) (W : World) (v : Value) (ps : List PeerM) : Prop :=
  (ps = [] ∧ v = .slice none 0 0) ∨ ∃ g c rest vs, v = .slice (some ⟨g, 0, none⟩) ps.length c ∧ RowAt base no W g c rest ps vs
theorem peersV_cells {ps : List PeerM} {vs : List Value} (hl : vs.length = ps.length) (hok : ∀ p ∈ ps, p.ok) : ∀ o ∈ peersV ps vs, o.length = 85 := fun o ho => by
  obtain ⟨i, hi, rfl⟩ := List.getElem_of_mem ho
  rw [peersV_len ps vs hl] at hi
  have e := peersV_at (List.getElem?_eq_getElem hi) (List.getElem?_eq_getElem (by omega : i < vs.length))
  rw [List.getElem?_eq_getElem (by rw [peersV_len ps vs hl]; exact hi)] at e
  injection e with e
  rw [e]
  exact PeerM.cells_length (hok _ (List.getElem_mem hi)) _
section
variable {base g c : Nat} {no : List Nat} {W W' : World} {rest : List Value} {ps : List PeerM} {vs : List Value} {v : Value}
theorem RowAt.cells (h : RowAt base no W g c rest ps vs) : ∀ o ∈ peersV ps vs, o.length = 85 := peersV_cells h.len h.ok
theorem RowAt.at (h : RowAt base no W g c rest ps vs) {i : Nat} {p : PeerM} {x : Value} (hp : ps[i]? = some p) (hx : vs[i]? = some x) : At W g (i * 85) (p.cells x) := blk_at h.blk h.cells (peersV_at hp hx)
theorem RowAt.below (h : RowAt base no W g c rest ps vs) (hb : Below W.heap.size W W') : RowAt base no W' g c rest ps vs :=
  ⟨h.low, h.le, h.max, h.len, h.size, by have := h.blk; unfold Blk at this ⊢; rw [hb.block g h.blk.lt]; exact this, h.ok, fun i p x hp hx => (h.pf i p x hp hx).below hb⟩
/-- a part of one peer is written -/
theorem RowAt.put (h : RowAt base no W g c rest ps vs) {j : Nat} {p p' : PeerM} {x x' : Value} (hp : ps[j]? = some p) (hx : vs[j]? = some x) (f : Nat) (xs : List Value) (hf : f + xs.length ≤ 85) (hs : setL (p.cells x) f xs = p'.cells x') (hok : p'.ok) (hpf : PfO W (g :: no) p' x') (hg : W.grownBy W' (some g)) (hb : Blk W' g 57 (setL ((peersV ps vs).flatten ++ rest) (j * 85 + f) xs)) : RowAt base no W' g c rest (ps.set j p') (vs.set j x') := by
  refine ⟨h.low, by rw [List.length_set]; exact h.le, h.max, by rw [List.length_set, List.length_set]; exact h.len, by rw [List.length_set]; exact h.size, ?_, fun q hq => ?_, fun i q y hq hy => ?_⟩
  · rw [flat_part h.cells j _ (peersV_at hp hx) f xs hf, hs] at hb
    rw [peersV_set]
    exact hb
  · rcases List.mem_or_eq_of_mem_set hq with hq | rfl
    · exact h.ok q hq
    · exact hok
  · by_cases hij : i = j
    · subst hij
      rw [List.getElem?_set_self (List.getElem?_eq_some_iff.1 hp).1] at hq
      rw [List.getElem?_set_self (List.getElem?_eq_some_iff.1 hx).1] at hy
      injection hq with hq
      injection hy with hy
      subst hq hy
      exact hpf.grown hg (List.mem_cons_self ..)
    · rw [List.getElem?_set_ne (Ne.symm hij)] at hq hy
      exact (h.pf i q y hq hy).grown hg (List.mem_cons_self ..)
theorem RowAt.cell (h : RowAt base no W g c rest ps vs) {j : Nat} {p p' : PeerM} {x x' : Value} (hp : ps[j]? = some p) (hx : vs[j]? = some x) (f : Nat) (u : Value) (hf : f < 85) (hs : (p.cells x).set f u = p'.cells x') (hok : p'.ok) (hpf : PfO W (g :: no) p' x') : RowAt base no (W.setCell ⟨g, j * 85 + f, none⟩ u) g c rest (ps.set j p') (vs.set j x') := by
  have hj := (List.getElem?_eq_some_iff.1 hp).1
  have hlen := flat_length h.cells
  rw [peersV_len ps vs h.len] at hlen
  have hjm : (j + 1) * 85 ≤ ps.length * 85 := Nat.mul_le_mul_right 85 hj
  have hb := h.blk.set_ (j * 85 + f) u
  rw [set_setL _ _ _ (by rw [List.length_append, hlen]; omega)] at hb
  exact h.put hp hx f [u] (by simp; omega) (by rw [← set_setL _ _ _ (by rw [PeerM.cells_length (h.ok p (List.mem_of_getElem? hp))]; exact hf)]; exact hs) hok hpf (grown_cell W g (j * 85 + f) u) hb
/-- it can be read -/
theorem RowAt.rd (h : RowAt base no W g c rest ps vs) : PeRd W W.heap.size (some ⟨g, 0, none⟩) ps.length ps :=
  ⟨vs, h.len, blk_row h.blk h.cells (peersV_len ps vs h.len), h.ok, fun i p x hp hx => by
    obtain ⟨A, d, e, h1, h2, h3, _⟩ := h.pf i p x hp hx
    exact ⟨A, d, e, h1, h2, h3⟩⟩
theorem RowAt.own (h : RowAt base no W g c rest ps vs) : W.ownsRow base 57 85 (.slice (some ⟨g, 0, none⟩) ps.length c) ps.length (peersV ps vs).flatten := by
  have hlen := flat_length h.cells
  rw [peersV_len ps vs h.len] at hlen
  have hs := h.size
  exact ⟨hlen, .inr ⟨g, c, _, rfl, h.low, h.blk, h.le, h.max, by simp only [List.size_toArray, List.length_append]; omega, by simp only []; rw [List.take_append_of_le_length (by omega), List.take_of_length_le (by omega)]⟩⟩
theorem RowOk.own (h : RowOk base no W v ps) : ∃ vs, vs.length = ps.length ∧ W.ownsRow base 57 85 v ps.length (peersV ps vs).flatten ∧ (∀ p ∈ ps, p.ok) ∧ ∀ (i : Nat) (p : PeerM) (x : Value), ps[i]? = some p → vs[i]? = some x → PfO W (v.ownBlock.toList ++ no) p x := by
  rcases h with ⟨rfl, rfl⟩ | ⟨g, d, rest', vs', rfl, h⟩
  · exact ⟨[], rfl, World.ownsRow_nil .., by simp, by simp⟩
  · exact ⟨vs', h.len, h.own, h.ok, h.pf⟩
theorem RowOk.of_own (hl : vs.length = ps.length) (ho : W.ownsRow base 57 85 v ps.length (peersV ps vs).flatten) (hok : ∀ p ∈ ps, p.ok) (hpf : ∀ (i : Nat) (p : PeerM) (x : Value), ps[i]? = some p → vs[i]? = some x → PfO W (v.ownBlock.toList ++ no) p x) : RowOk base no W v ps := by
  rcases ho.2 with ⟨rfl, h0⟩ | ⟨g, cap, cur, rfl, hbg, hg, h1, h2, h3, h4⟩
  · exact .inl ⟨List.length_eq_zero_iff.1 h0, rfl⟩
  · have hx := ho.1
    have hm : ps.length * 85 ≤ cap * 85 := Nat.mul_le_mul_right 85 h1
    refine .inr ⟨g, cap, cur.toList.drop (ps.length * 85), vs, rfl, hbg, h1, h2, hl, by
      have hc : cur.toList.length = cur.size := Array.length_toList
      rw [List.length_drop]
      omega, ?_, hok, hpf⟩
    unfold Blk
    rw [← h4, List.take_append_drop]
    simpa using hg
theorem RowOk.below (h : RowOk base no W v ps) (hb : Below W.heap.size W W') : RowOk base no W' v ps := by
  rcases h with h | ⟨g, d, rest', vs', e, h⟩
  · exact .inl h
  · exact .inr ⟨g, d, rest', vs', e, h.below hb⟩
theorem RowOk.rd (h : RowOk base no W v ps) : ∃ A d, v = .slice A ps.length d ∧ ps.length ≤ d ∧ PeRd W W.heap.size A ps.length ps := by
  rcases h with ⟨rfl, rfl⟩ | ⟨g, d, rest', vs', rfl, h⟩
  · exact ⟨none, 0, rfl, Nat.le_refl _, PeRd.nil⟩
  · exact ⟨_, d, rfl, h.le, h.rd⟩
theorem RowOk.mono {b : Nat} (h : RowOk base no W v ps) (hb : b ≤ base) : RowOk b no W v ps := by
  rcases h with h | ⟨g, d, rest', vs', e, h⟩
  · exact .inl h
  · exact .inr ⟨g, d, rest', vs', e, Nat.le_trans hb h.low, h.le, h.max, h.len, h.size, h.blk, h.ok, h.pf⟩
/-- a block that is not of the row is written -/
theorem RowOk.other (h : RowOk base no W v ps) {k : Nat} (hg : W.grownBy W' (some k)) (hk : k ∈ no) (hb : k < base) : RowOk base no W' v ps := by
  rcases h with h | ⟨g, d, rest', vs', e, h⟩
  · exact .inl h
  · refine .inr ⟨g, d, rest', vs', e, h.low, h.le, h.max, h.len, h.size, ?_, h.ok, fun i p x hp hx => (h.pf i p x hp hx).grown hg (List.mem_cons_of_mem _ hk)⟩
    have hl := h.low
    unfold Blk
    rw [hg.block g h.blk.lt (fun e2 => by injection e2 with e2; omega)]
    exact h.blk
theorem RowOk.less {no' : List Nat} (h : RowOk base no W v ps) (hs : ∀ k ∈ no', k ∈ no) : RowOk base no' W v ps := by
  rcases h with h | ⟨g, d, rest', vs', e, h⟩
  · exact .inl h
  · exact .inr ⟨g, d, rest', vs', e, h.low, h.le, h.max, h.len, h.size, h.blk, h.ok, fun i p x hp hx => (h.pf i p x hp hx).less fun k hk => by
      rcases List.mem_cons.1 hk with rfl | hk
      · exact List.mem_cons_self ..
      · exact List.mem_cons_of_mem _ (hs k hk)⟩
/-- the first peers of a list that can be read, copied -/
theorem RowOk.copied {w : World} {B n : Nat} {A : Option Addr} (h : PeRd w B A n ps) (hB : B ≤ base) (hno : ∀ k ∈ no, B ≤ k) (hbw : Below B w W) (m : Nat) (hm : m ≤ n) (hws : base ≤ W.heap.size) (vs : List Value) (hl : vs.length = ps.length) (hx : ∀ (i : Nat) (p : PeerM) (x : Value), ps[i]? = some p → vs[i]? = some x → ∃ A' c, x = .slice A' p.al.length c ∧ p.al.length ≤ c ∧ c ≤ maxLen ∧ PfRd w B A' p.al.length p.al) (ho : W.ownsRow base 57 85 v m ((peersV ps vs).take m).flatten) (hok : ∀ p ∈ ps, p.ok) : RowOk base no W v (ps.take m) := by
  have hlen := h.len
  have e1 : (ps.take m).length = m := by rw [List.length_take]; omega
  refine .of_own (vs := vs.take m) (by rw [List.length_take, List.length_take, hl]) ?_ (fun p hp => hok p (List.mem_of_mem_take hp)) fun i p x hp hx2 => ?_
  · rw [e1, show peersV (ps.take m) (vs.take m) = (peersV ps vs).take m from by rw [peersV, peersV, List.take_zipWith]]
    exact ho
  · rw [List.getElem?_take] at hp hx2
    split at hp
    · rw [if_pos (by assumption)] at hx2
      obtain ⟨A', d, e, h1, h2, h3⟩ := hx i p x hp hx2
      refine ⟨A', d, e, h1, h2, (h3.below hbw).mono (by omega), fun h0 b off hA he => ?_⟩
      obtain ⟨b', off', e', hlt, _⟩ := h3.1.2.2 h0
      rw [hA] at e'
      simp only [Option.some.injEq, Addr.mk.injEq] at e'
      rcases List.mem_append.1 he with he | he
      · have := (own_lt ho (Option.mem_toList.1 he)).1
        omega
      · have := hno b he
        omega
    · cases hp
end
end Go.Proofs.YtcbfchkhbngpkaaGreatDoor
namespace Go.Proofs.YtcbfchkhbngpkaaGreatDoor
open Go.RowKit

/-- one byte as a text -/
theorem one_text (W : World) (x : UInt8) : (convert 22 9 (.slice (some ⟨W.heap.size, 0, none⟩) 1 1)).run Tryz.prog (W.alloc (.cells #[.int .u8 (x.toNat : Int)] 5)) = .ok (.string ⟨#[x]⟩) (W.alloc (.cells #[.int .u8 (x.toNat : Int)] 5)) :=
  run_string_of_rd (P := Tryz.prog) (l := [x]) 22 9 5 1 Tryz.underlying22 Tryz.underlying5 Tryz.underlying9 (Rd.mono (blk_all (l := [x]) (Blk.new W 5 [.int .u8 (x.toNat : Int)]) rfl) (Nat.le_refl _))
theorem blk_text {W : World} {g : Nat} {x : UInt8} (h : Blk W g 5 [.int .u8 (x.toNat : Int)]) : (convert 22 9 (.slice (some ⟨g, 0, none⟩) 1 1)).run Tryz.prog W = .ok (.string ⟨#[x]⟩) W :=
  run_string_of_rd (P := Tryz.prog) (l := [x]) 22 9 5 1 Tryz.underlying22 Tryz.underlying5 Tryz.underlying9 (blk_all (l := [x]) h rfl)
set_option maxRecDepth 100000 in
set_option maxHeartbeats 1000000 in
theorem refDecimal_any (n : Nat) (hn : n < 9223372036854775808) (w : World) :
    Calls Tryz.prog 28 #[.int .i64 (n : Int)] w fun e w' => e = .returned (.string ⟨(decT n).toArray⟩) ∧ Below w.heap.size w w' := by
  induction n using Nat.strongRecOn generalizing w with
  | ind n ih =>
    obtain ⟨x, hx⟩ : ∃ x, UInt8.ofNat (48 + n % 10) = x := ⟨_, rfl⟩
    have hxn : x.toNat = 48 + n % 10 := by rw [← hx]; exact ofNat_dig _ (Nat.mod_lt n (by omega))
    by_cases h : n < 10
    · have hd : decT n = [x] := by rw [decT_small h, ← hx, Nat.mod_eq_of_lt h]
      rw [hd]
      have hw : IntKind.u8.wrap (48 + (n : Int)) = (x.toNat : Int) := by rw [hxn, IntKind.wrap_u8']; omega
      have hw2 : IntKind.i64.wrap (48 + (n : Int)) = 48 + (n : Int) := IntWalk.i64_in _ (by omega)
      have hlt : (n : Int) < 10 := by omega
      have kc := one_text
      clear hd hx hxn ih hn h
      go_enter Tryz.func28, Tryz.ntmps28
      go_wp2
      go_ret
      exact ⟨rfl, (Below.refl _ _).alloc (Nat.le_refl _) _⟩
    · have hd : decT n = decT (n / 10) ++ [x] := by rw [decT_big h, hx]
      rw [hd]
      have hl := decT_short (n / 10) (by omega)
      have IH := Lib.hid (ih (n / 10) (by omega) (by omega))
      obtain ⟨l, hll⟩ : ∃ z, decT (n / 10) = z := ⟨_, rfl⟩
      rw [hll] at IH hl ⊢
      have HAD := Lib.hid (fun W => add_text l [x] (by omega) (by simp) W)
      obtain ⟨r, hr⟩ : ∃ z, n % 10 = z := ⟨_, rfl⟩
      have htm : (n : Int).tmod 10 = (r : Int) := by rw [← hr]; exact Int.ofNat_tmod n 10
      have hw : IntKind.u8.wrap (48 + (r : Int)) = (x.toNat : Int) := by rw [hxn, hr, IntKind.wrap_u8']; omega
      have hw2 : IntKind.i64.wrap (48 + (r : Int)) = 48 + (r : Int) := IntWalk.i64_in _ (by omega)
      have hq : (n : Int) / 10 = ((n / 10 : Nat) : Int) := by omega
      have hge : ¬ (n : Int) < 10 := by omega
      have hn0 : (0 : Int) ≤ (n : Int) := by omega
      obtain ⟨q, hqq⟩ : ∃ z, n / 10 = z := ⟨_, rfl⟩
      rw [hqq] at hq IH
      have hwq : IntKind.i64.wrap (q : Int) = (q : Int) := IntWalk.i64_in _ (by omega)
      have HM := Lib.hid (Mem.nil w)
      clear hd hx hxn hr ih hn h hll hqq hl
      go_enter Tryz.func28, Tryz.ntmps28
      go_upto_region 3 with fail
      refine wp_region_held_drew (S := fun W' => Mem w [] W') (by kernel_rfl) ((HM.out).drew) (fun hHeld => ?_)
      replace HM := Lib.hid HM.out.drew
      generalize w.drew = wd1 at HM hHeld ⊢
      refine take_first (v := ?_) 0 rfl (by kernel_rfl) (by kernel_rfl) (by kernel_rfl) (fun _ _ _ h => h) (Or.inl ⟨by rfl, ?_⟩) (by assumption) ?_
      rotate_left
      · (intro w hSw; (try dsimp only at hSw); go_simp; try with_reducible rfl)
      (try simp only [Act.put, List.setIfInBounds_toArray, List.set_cons_zero, List.set_cons_succ])
      refine take_first (v := ?_) 1 rfl (by kernel_rfl) (by kernel_rfl) (by kernel_rfl) (fun _ _ _ h => h) (Or.inl ⟨by rfl, ?_⟩) (by assumption) ?_
      rotate_left
      · (intro w hSw; (try dsimp only at hSw); go_simp; try with_reducible rfl)
      (try simp only [Act.put, List.setIfInBounds_toArray, List.set_cons_zero, List.set_cons_succ])
      refine take_first (v := ?_) 3 rfl (by kernel_rfl) (by kernel_rfl) (by kernel_rfl) (fun _ _ _ h => h) (Or.inl ⟨by rfl, ?_⟩) (by assumption) ?_
      rotate_left
      · (intro w hSw; (try dsimp only at hSw); go_simp; try with_reducible rfl)
      (try simp only [Act.put, List.setIfInBounds_toArray, List.set_cons_zero, List.set_cons_succ])
      refine take_first (v := ?_) 4 rfl (by kernel_rfl) (by kernel_rfl) (by kernel_rfl) (fun _ _ _ h => h) (Or.inl ⟨by rfl, ?_⟩) (by assumption) ?_
      rotate_left
      · (intro w hSw; (try dsimp only at hSw); go_simp; try with_reducible rfl)
      (try simp only [Act.put, List.setIfInBounds_toArray, List.set_cons_zero, List.set_cons_succ])
      refine take_first (v := ?_) 5 rfl (by kernel_rfl) (by kernel_rfl) (by kernel_rfl) (fun _ _ _ h => h) (Or.inl ⟨by rfl, ?_⟩) (by assumption) ?_
      rotate_left
      · (intro w hSw; (try dsimp only at hSw); go_simp; try with_reducible rfl)
      (try simp only [Act.put, List.setIfInBounds_toArray, List.set_cons_zero, List.set_cons_succ])
      refine take_first (v := ?_) 6 rfl (by kernel_rfl) (by kernel_rfl) (by kernel_rfl) (fun _ _ _ h => h) (Or.inl ⟨by rfl, ?_⟩) (by assumption) ?_
      rotate_left
      · (intro w hSw; (try dsimp only at hSw); go_simp; try with_reducible rfl)
      (try simp only [Act.put, List.setIfInBounds_toArray, List.set_cons_zero, List.set_cons_succ])
      refine step_two 2 7 rfl rfl (by kernel_rfl) (fun K hK => ?_) (fun K hK => ?_)
      · clear hHeld
        go_simp
        refine (IH.out _).mono ?_
        rintro e wy2 ⟨rfl, hb⟩
        replace HM := Lib.hid (show Mem w [] wy2 from HM.out.below hb)
        clear hb
        go_wp2_with fail
        refine hK.out _ _ (HM.out) (fun hHeld => ?_)
        clear hK K
        (try simp only [Act.put, List.setIfInBounds_toArray, List.set_cons_zero, List.set_cons_succ])
        refine step_one 7 rfl (by kernel_rfl) (fun K hK => ?_)
        clear hHeld
        go_simp
        replace HM := Lib.hid (show Mem w [blkE wy2.heap.size 5 ([.int .u8 (x.toNat : Int)])] (wy2.alloc (.cells #[.int .u8 (x.toNat : Int)] 5)) from HM.out.alloc rfl 5 #[.int .u8 (x.toNat : Int)] ([.int .u8 (x.toNat : Int)]) rfl)
        generalize wy2.alloc (.cells #[.int .u8 (x.toNat : Int)] 5) = wy3 at HM ⊢
        generalize wy2.heap.size = GB at HM ⊢
        refine hK.out _ _ ((HM.out.erase 0)) (fun hHeld => ?_)
        clear hK K
        (try simp only [Act.put, List.setIfInBounds_toArray, List.set_cons_zero, List.set_cons_succ])
        refine wpAnyH_stronger (T := fun W' => Mem w [blkE GB 5 ([.int .u8 (x.toNat : Int)])] W') (fun _ h' => h'.erase 0) _ _ _ _ ?_
        replace hHeld := HM.out
        refine take_first (v := ?_) 8 rfl (by kernel_rfl) (by kernel_rfl) (by kernel_rfl) (fun _ _ _ h => h) (Or.inl ⟨by rfl, ?_⟩) (by assumption) ?_
        rotate_left
        · (intro w hSw; (try dsimp only at hSw); have hc := blk_text (Mem.blk hSw 0 rfl); go_simp; try with_reducible rfl)
        (try simp only [Act.put, List.setIfInBounds_toArray, List.set_cons_zero, List.set_cons_succ])
        refine take_first (v := ?_) 9 rfl (by kernel_rfl) (by kernel_rfl) (by kernel_rfl) (fun _ _ _ h => h) (Or.inl ⟨by rfl, ?_⟩) (by assumption) ?_
        rotate_left
        · (intro w hSw; (try dsimp only at hSw); have ha := HAD.out w; go_simp; try with_reducible rfl)
        (try simp only [Act.put, List.setIfInBounds_toArray, List.set_cons_zero, List.set_cons_succ])
        refine take_first (v := ?_) 10 rfl (by kernel_rfl) (by kernel_rfl) (by kernel_rfl) (fun _ _ _ h => h) (Or.inl ⟨by rfl, ?_⟩) (by assumption) ?_
        rotate_left
        · (intro w hSw; (try dsimp only at hSw); go_simp; try with_reducible rfl)
        (try simp only [Act.put, List.setIfInBounds_toArray, List.set_cons_zero, List.set_cons_succ])
        refine wpAnyH_done (by kernel_rfl) ?_ _
        clear hHeld
        go_wp2
        go_ret
        exact ⟨rfl, HM.out.bel⟩
      · clear hHeld
        go_simp
        replace HM := Lib.hid (show Mem w [blkE wd1.heap.size 5 ([.int .u8 (x.toNat : Int)])] (wd1.alloc (.cells #[.int .u8 (x.toNat : Int)] 5)) from HM.out.alloc rfl 5 #[.int .u8 (x.toNat : Int)] ([.int .u8 (x.toNat : Int)]) rfl)
        generalize wd1.alloc (.cells #[.int .u8 (x.toNat : Int)] 5) = wy2 at HM ⊢
        generalize wd1.heap.size = GB at HM ⊢
        refine hK.out _ _ ((HM.out.erase 0)) (fun hHeld => ?_)
        clear hK K
        (try simp only [Act.put, List.setIfInBounds_toArray, List.set_cons_zero, List.set_cons_succ])
        refine wpAnyH_stronger (T := fun W' => Mem w [blkE GB 5 ([.int .u8 (x.toNat : Int)])] W') (fun _ h' => h'.erase 0) _ _ _ _ ?_
        replace hHeld := HM.out
        refine take_first (v := ?_) 8 rfl (by kernel_rfl) (by kernel_rfl) (by kernel_rfl) (fun _ _ _ h => h) (Or.inl ⟨by rfl, ?_⟩) (by assumption) ?_
        rotate_left
        · (intro w hSw; (try dsimp only at hSw); have hc := blk_text (Mem.blk hSw 0 rfl); go_simp; try with_reducible rfl)
        (try simp only [Act.put, List.setIfInBounds_toArray, List.set_cons_zero, List.set_cons_succ])
        refine step_one 2 rfl (by kernel_rfl) (fun K hK => ?_)
        clear hHeld
        go_simp
        refine (IH.out _).mono ?_
        rintro e wy3 ⟨rfl, hb⟩
        replace HM := Lib.hid (show Mem w [blkE GB 5 ([.int .u8 (x.toNat : Int)])] wy3 from HM.out.below hb)
        clear hb
        go_wp2_with fail
        refine hK.out _ _ (HM.out) (fun hHeld => ?_)
        clear hK K
        (try simp only [Act.put, List.setIfInBounds_toArray, List.set_cons_zero, List.set_cons_succ])
        refine take_first (v := ?_) 9 rfl (by kernel_rfl) (by kernel_rfl) (by kernel_rfl) (fun _ _ _ h => h) (Or.inl ⟨by rfl, ?_⟩) (by assumption) ?_
        rotate_left
        · (intro w hSw; (try dsimp only at hSw); have ha := HAD.out w; go_simp; try with_reducible rfl)
        (try simp only [Act.put, List.setIfInBounds_toArray, List.set_cons_zero, List.set_cons_succ])
        refine take_first (v := ?_) 10 rfl (by kernel_rfl) (by kernel_rfl) (by kernel_rfl) (fun _ _ _ h => h) (Or.inl ⟨by rfl, ?_⟩) (by assumption) ?_
        rotate_left
        · (intro w hSw; (try dsimp only at hSw); go_simp; try with_reducible rfl)
        (try simp only [Act.put, List.setIfInBounds_toArray, List.set_cons_zero, List.set_cons_succ])
        refine wpAnyH_done (by kernel_rfl) ?_ _
        clear hHeld
        go_wp2
        go_ret
        exact ⟨rfl, HM.out.bel⟩
end Go.Proofs.YtcbfchkhbngpkaaGreatDoor
namespace Go.Proofs.YtcbfchkhbngpkaaGreatDoor
open Go.RowKit

end Go.Proofs.YtcbfchkhbngpkaaGreatDoor
namespace Go.Proofs.YtcbfchkhbngpkaaGreatDoor
open Go.RowKit

theorem hexCut (k : Nat) (L H : Int) (h : L = (k : Int) ∧ H = (k : Int) + 1 ∧ k < 16) : ByteArray.extract (ByteArray.mk #[48, 49, 50, 51, 52, 53, 54, 55, 56, 57, 97, 98, 99, 100, 101, 102]) L.toNat H.toNat = ⟨#[hexD k]⟩ := by
  obtain ⟨rfl, rfl, hk⟩ := h
  have : ∀ d : Fin 16, ByteArray.extract (ByteArray.mk #[48, 49, 50, 51, 52, 53, 54, 55, 56, 57, 97, 98, 99, 100, 101, 102]) d.val (d.val + 1) = ⟨#[hexD d.val]⟩ := by decide +kernel
  rw [Int.toNat_natCast, show ((k : Int) + 1).toNat = k + 1 from by omega]
  exact this ⟨k, hk⟩
end Go.Proofs.YtcbfchkhbngpkaaGreatDoor
namespace Go.Proofs.YtcbfchkhbngpkaaGreatDoor
open Go.RowKit

/-- the length of a text that is a value -/
def strLen : Value → Nat
  | .string S => S.size
  | _ => 0
set_option maxRecDepth 100000 in
set_option maxHeartbeats 4000000 in
theorem refGroup_any (N : Nat) (hN : N < 65536) (w : World) :
    Calls Tryz.prog 78 #[.int .i64 (N : Int)] w fun e w' => e = .returned (.string ⟨(hexT N).toArray⟩) ∧ w = w' := by
  go_enter Tryz.func78, Tryz.ntmps78
  go_wp2_with fail
  go_loopw [3, 0] (fun s n wr => ∃ (m : Nat) (sl : List UInt8), m < 65536 ∧ n = .int .i64 (m : Int) ∧ s = .string ⟨sl.toArray⟩ ∧ Hid (hexT N = (if m = 0 ∧ sl ≠ [] then [] else hexT m) ++ sl) ∧ w = wr) (fun s _ _ => 5 - strLen s)
  case atStart => exact ⟨N, [], hN, rfl, rfl, Lib.hid (by simp), rfl⟩
  case round =>
    obtain ⟨m, sl, hm, rfl, rfl, hh, rfl⟩ := hrel
    replace hh := hh.out
    by_cases h0 : m = 0
    · subst h0
      by_cases hs : sl = []
      · subst hs
        have HN := Lib.hid (show hexT N = [48] from by rw [hh, if_neg (fun h => h.2 rfl), hexT_small (by omega)]; rfl)
        clear hh
        go_wp2
        exact ⟨⟨0, [48], by omega, rfl, rfl, Lib.hid (by rw [HN.out, if_pos ⟨rfl, by simp⟩]; rfl), trivial⟩, by decide⟩
      · have he : sl.isEmpty = false := by cases sl with | nil => exact absurd rfl hs | cons _ _ => rfl
        rw [if_pos ⟨rfl, hs⟩, List.nil_append] at hh
        have HH := Lib.hid hh
        clear hh hs
        go_wp2
        go_ret
        exact ⟨ret_string (by rw [HH.out]), rfl⟩
    · have hgo : ¬(m = 0 ∧ sl ≠ []) := fun h => h0 h.1
      have hps : (0 : Int) < (m : Int) := by omega
      clear h0
      obtain ⟨r, hr⟩ : ∃ z, m % 16 = z := ⟨_, rfl⟩
      obtain ⟨q, hq⟩ : ∃ z, m / 16 = z := ⟨_, rfl⟩
      have htm : (m : Int).tmod 16 = (r : Int) := by rw [← hr]; exact Int.ofNat_tmod m 16
      have htd : (m : Int) / 16 = (q : Int) := by omega
      have hr16 : r < 16 := by omega
      have hw1 : IntKind.i64.wrap ((r : Int) + 1) = (r : Int) + 1 := IntWalk.i64_in _ (by omega)
      have hw2 : IntKind.i64.wrap (q : Int) = (q : Int) := IntWalk.i64_in _ (by omega)
      have hcut := hexCut r (r : Int) ((r : Int) + 1) ⟨rfl, rfl, hr16⟩
      obtain ⟨x, hx⟩ : ∃ z, hexD r = z := ⟨_, rfl⟩
      rw [hx, Int.toNat_natCast, show ((r : Int) + 1).toNat = r + 1 from by omega] at hcut
      have HN := Lib.hid (show hexT N = (if q = 0 ∧ x :: sl ≠ [] then [] else hexT q) ++ (x :: sl) from by
        rw [hh, if_neg hgo, ← hq, ← hx, ← hr]
        by_cases h16 : m < 16
        · rw [hexT_small h16, Nat.div_eq_of_lt h16, if_pos ⟨rfl, by simp⟩, Nat.mod_eq_of_lt h16]; rfl
        · rw [hexT_big h16, if_neg (by omega)]; simp)
      have hl5 : (x :: sl).length ≤ 4 := by
        have h1 := congrArg List.length HN.out
        rw [List.length_append] at h1
        have := hexT_len N 4 (by omega) (by omega)
        omega
      have HAD := Lib.hid (fun W => add_text [x] sl (by simp) (by simp at hl5; omega) W)
      have ha := fun W => HAD.out W
      have e0 : (0 : Int) ≤ (r : Int) + 1 := by omega
      have e1 : (r : Int) + 1 ≤ 16 := by omega
      have e2 : (r : Int) ≤ (r : Int) + 1 := by omega
      have hm0 : (0 : Int) ≤ (m : Int) := by omega
      clear hr hq hx hh hgo
      go_wp2
      go_roundw
      case rel => exact ⟨q, x :: sl, by omega, rfl, rfl, HN, by first | rfl | trivial⟩
      case measure => simp [strLen, ByteArray.size] at hl5 ⊢; omega
end Go.Proofs.YtcbfchkhbngpkaaGreatDoor
namespace Go.Proofs.YtcbfchkhbngpkaaGreatDoor
open Go.RowKit

set_option maxRecDepth 100000 in
set_option maxHeartbeats 4000000 in
theorem refFmtAddr_any (a : AddrM) (ho : a.ok) (w : World) :
    Calls Tryz.prog 55 #[.agg a.cells.toArray] w fun e w' => e = .returned (.string ⟨(addrT a).toArray⟩) ∧ Below w.heap.size w w' := by
  have HO := Lib.hid ho
  have HSO := Lib.hid (refSound_any a ho)
  obtain ⟨ca, hca⟩ : ∃ z, a.cells.toArray = z := ⟨_, rfl⟩
  have HUA := Lib.hid (show (Tryz.prog.info? 53).map (·.size) = some a.cells.length from by rw [AddrM.cells_length ho]; kernel_rfl)
  rw [hca] at HSO ⊢
  have HM := Lib.hid (show Mem w [blkE w.heap.size 53 a.cells] (w.alloc (.cells ca 53)) from (Mem.nil w).alloc rfl 53 ca a.cells hca.symm)
  have HCA := Lib.hid hca
  clear hca ho
  have HV := Lib.hid (show addrT a = if soundM a = false then [] else if a.six then joinT 58 ((List.range 8).map fun i => hexT (groupV a i)) else joinT 46 ((List.range 4).map fun i => decT (a.ip.getD i 0).toNat) from rfl)
  generalize hsd : soundM a = sd at HSO HV
  go_enter Tryz.func55, Tryz.ntmps55
  go_upto_region 1 with fail
  generalize w.alloc (.cells ca 53) = w1 at HM ⊢
  go_wp2_with (refine wpList_load_obj rfl 53 (.tmp 1) rfl w.heap.size 0 rfl a.cells (HM.out.blk 0 rfl).all _ Tryz.underlying53 rfl HUA.out ?_)
  rw [HCA.out]
  refine (HSO.out _).mono ?_
  rintro e w2 ⟨rfl, hb⟩
  replace HM := Lib.hid (show Mem w [blkE w.heap.size 53 a.cells] w2 from HM.out.below hb)
  clear hb HSO hsd
  cases sd
  · go_wp2
    go_ret
    exact ⟨ret_string (by rw [HV.out]; simp), HM.out.bel⟩
  replace HV := Lib.hid (HV.out.trans (if_neg (by decide)))
  have fsix : w2.cell? ⟨w.heap.size, 0, none⟩ = some (.bool a.six) := (HM.out.blk 0 rfl).cell 0
  cases h6 : a.six
  · rw [h6] at fsix
    replace HV := Lib.hid (HV.out.trans (if_neg (by rw [h6]; decide)))
    clear h6
    have HM := Lib.hid HM.out
    have HF := Lib.hid (show ∀ i, ((fun k => decT (a.ip.getD k 0).toNat) i).length ≤ 3 from fun i => decT_len _ 3 (by omega) (by have := (a.ip.getD i 0).toNat_lt; omega))
    go_wp2_with fail
    go_loopw [3, 4] (fun s i wr => ∃ j : Nat, j ≤ 4 ∧ i = .int .i64 (j : Int) ∧ s = .string ⟨(dotT 46 (fun k => decT (a.ip.getD k 0).toNat) j).toArray⟩ ∧ Mem w [blkE w.heap.size 53 a.cells] wr) (fun _ i _ => 4 - (intOf i).toNat)
    case atStart => exact ⟨0, by omega, rfl, rfl, HM.out⟩
    case round =>
      obtain ⟨j, hj, rfl, rfl, hM⟩ := hrel
      replace HM := Lib.hid hM
      clear hM
      by_cases hlt : j < 4
      · have hdl := dot_len 46 (fun k => decT (a.ip.getD k 0).toNat) 3 HF.out j
        have HDS := Lib.hid (show dotT 46 (fun k => decT (a.ip.getD k 0).toNat) (j + 1) = dotT 46 (fun k => decT (a.ip.getD k 0).toNat) j ++ (46 :: decT (a.ip.getD j 0).toNat) from dot_succ 46 (fun k => decT (a.ip.getD k 0).toNat) j)
        obtain ⟨x, hx⟩ : ∃ x, a.ip.getD j 0 = x := ⟨_, rfl⟩
        have hc := (HM.out.blk 0 rfl).cell (1 + j)
        rw [AddrM.ip_cell a HO.out j (by omega), hx] at hc
        have hDC := fun W => refDecimal_any x.toNat (by have := x.toNat_lt; omega) W
        have hfl : (decT (a.ip.getD j 0).toNat).length ≤ 3 := HF.out j
        rw [hx] at hfl HDS
        have HDC := Lib.hid hDC
        generalize decT x.toNat = d at HDC hfl HDS
        have HA1 := Lib.hid (fun W => add_text [46] d (by simp) (by omega) W)
        have hxb := x.toNat_lt
        have hw := IntWalk.i64_in (x.toNat : Int) (by omega)
        obtain ⟨e, he⟩ : ∃ e, dotT 46 (fun k => decT (a.ip.getD k 0).toNat) j = e := ⟨_, rfl⟩
        rw [he] at HDS hdl ⊢
        have HA2 := Lib.hid (fun W => add_text e (46 :: d) (by omega) (by simp; omega) W)
        have ha1 := HA1.out
        have ha2 := HA2.out
        clear hx hDC he
        go_wp2_with fail
        refine (HDC.out _).mono ?_
        rintro e5 w5 ⟨rfl, hb⟩
        replace HM := Lib.hid (show Mem w [blkE w.heap.size 53 a.cells] w5 from HM.out.below hb)
        clear hb hc
        go_wp2
        go_roundw
        case rel => exact ⟨j + 1, by omega, by go_num, by rw [HDS.out], HM.out⟩
        case measure => simp [intOf]; omega
      · obtain rfl : j = 4 := by omega
        have HLD := Lib.hid (dot_four 46 (fun k => decT (a.ip.getD k 0).toNat))
        have hdl := dot_len 46 (fun k => decT (a.ip.getD k 0).toNat) 3 HF.out 4
        have hne : 1 ≤ (dotT 46 (fun k => decT (a.ip.getD k 0).toNat) 4).length := by rw [dot_succ, List.length_append]; simp; omega
        generalize dotT 46 (fun k => decT (a.ip.getD k 0).toNat) 4 = e at HLD hdl hne ⊢
        have hsz := text_size e
        have hcut := text_drop e 1 e.length rfl
        have hn1 : (1 : Int) ≤ (e.length : Int) := by omega
        go_wp2
        go_ret
        exact ⟨ret_string (by rw [HV.out, ← HLD.out]; simp), HM.out.bel⟩
  · rw [h6] at fsix
    replace HV := Lib.hid (HV.out.trans (if_pos h6))
    clear h6
    have HM := Lib.hid HM.out
    have HF := Lib.hid (show ∀ i, ((fun k => hexT (groupV a k)) i).length ≤ 4 from fun i => hexT_len _ 4 (by omega) (by have := group_lt a i; omega))
    go_wp2_with fail
    go_loopw [3, 5] (fun s i wr => ∃ j : Nat, j ≤ 8 ∧ i = .int .i64 (j : Int) ∧ s = .string ⟨(dotT 58 (fun k => hexT (groupV a k)) j).toArray⟩ ∧ Mem w [blkE w.heap.size 53 a.cells] wr) (fun _ i _ => 8 - (intOf i).toNat)
    case atStart => exact ⟨0, by omega, rfl, rfl, HM.out⟩
    case round =>
      obtain ⟨j, hj, rfl, rfl, hM⟩ := hrel
      replace HM := Lib.hid hM
      clear hM
      by_cases hlt : j < 8
      · have hdl := dot_len 58 (fun k => hexT (groupV a k)) 4 HF.out j
        have HDS := Lib.hid (show dotT 58 (fun k => hexT (groupV a k)) (j + 1) = dotT 58 (fun k => hexT (groupV a k)) j ++ (58 :: hexT (groupV a j)) from dot_succ 58 (fun k => hexT (groupV a k)) j)
        obtain ⟨x, hx⟩ : ∃ x, a.ip.getD (2 * j) 0 = x := ⟨_, rfl⟩
        obtain ⟨y, hy⟩ : ∃ y, a.ip.getD (2 * j + 1) 0 = y := ⟨_, rfl⟩
        have hg : groupV a j = 256 * x.toNat + y.toNat := by rw [groupV, hx, hy]
        have hgl := group_lt a j
        have hGR := fun W => (refGroup_any (groupV a j) hgl W).mono (fun e w' (h : e = _ ∧ W = w') => (⟨h.1, h.2 ▸ Below.refl _ _⟩ : e = _ ∧ Below W.heap.size W w'))
        have hfl : (hexT (groupV a j)).length ≤ 4 := HF.out j
        rw [hg] at hGR hfl HDS hgl
        have HGR := Lib.hid hGR
        obtain ⟨z, hz⟩ : ∃ z, 256 * x.toNat + y.toNat = z := ⟨_, rfl⟩
        rw [hz] at HGR hfl HDS hgl
        generalize hexT z = d at HGR hfl HDS
        have HA1 := Lib.hid (fun W => add_text [58] d (by simp) (by omega) W)
        obtain ⟨e, he⟩ : ∃ e, dotT 58 (fun k => hexT (groupV a k)) j = e := ⟨_, rfl⟩
        rw [he] at HDS hdl ⊢
        have HA2 := Lib.hid (fun W => add_text e (58 :: d) (by omega) (by simp; omega) W)
        have hxb := x.toNat_lt
        have hyb := y.toNat_lt
        obtain ⟨p, hp⟩ : ∃ z, 2 * j = z := ⟨_, rfl⟩
        obtain ⟨p1, hp1⟩ : ∃ z, p + 1 = z := ⟨_, rfl⟩
        have hp16 : p + 1 < 16 := by omega
        rw [hp] at hx hy
        rw [hp1] at hy
        have HX := Lib.hid hx
        have HY := Lib.hid hy
        have hwp : IntKind.i64.wrap (2 * (j : Int)) = (p : Int) := by rw [IntWalk.i64_in _ (by omega)]; omega
        have hwp1 : IntKind.i64.wrap ((p : Int) + 1) = (p1 : Int) := by rw [IntWalk.i64_in _ (by omega)]; omega
        have q1 : (p : Int) < 16 := by omega
        have q2 : (p1 : Int) < 16 := by omega
        have hwx := IntWalk.i64_in (x.toNat : Int) (by omega)
        have hwy := IntWalk.i64_in (y.toNat : Int) (by omega)
        have hws : IntKind.i64.wrap ((x.toNat : Int) * 256) = (x.toNat : Int) * 256 := IntWalk.i64_in _ (by omega)
        have hwz : IntKind.i64.wrap ((x.toNat : Int) * 256 + (y.toNat : Int)) = (z : Int) := by rw [IntWalk.i64_in _ (by omega)]; omega
        clear hg hGR he hx hy hp hp1 hz
        go_upto_region 13 with fail
        refine wp_region_held_drew (S := fun W' => Mem w [blkE w.heap.size 53 a.cells] W') (by kernel_rfl) ((HM.out).drew) (fun hHeld => ?_)
        replace HM := Lib.hid HM.out.drew
        generalize wr.drew = wd1 at HM hHeld ⊢
        refine take_first (v := ?_) 0 rfl (by kernel_rfl) (by kernel_rfl) (by kernel_rfl) (fun _ _ _ h => h) (Or.inl ⟨by rfl, ?_⟩) (by assumption) ?_
        rotate_left
        · (intro w hSw; (try dsimp only at hSw); go_simp; try with_reducible rfl)
        (try simp only [Act.put, List.setIfInBounds_toArray, List.set_cons_zero, List.set_cons_succ])
        refine take_first (v := ?_) 1 rfl (by kernel_rfl) (by kernel_rfl) (by kernel_rfl) (fun _ _ _ h => h) (Or.inl ⟨by rfl, ?_⟩) (by assumption) ?_
        rotate_left
        · (intro w hSw; (try dsimp only at hSw); go_simp; try with_reducible rfl)
        (try simp only [Act.put, List.setIfInBounds_toArray, List.set_cons_zero, List.set_cons_succ])
        refine take_first (v := ?_) 2 rfl (by kernel_rfl) (by kernel_rfl) (by kernel_rfl) (fun _ _ _ h => h) (Or.inl ⟨by rfl, ?_⟩) (by assumption) ?_
        rotate_left
        · (intro w hSw; (try dsimp only at hSw); go_simp; try with_reducible rfl)
        (try simp only [Act.put, List.setIfInBounds_toArray, List.set_cons_zero, List.set_cons_succ])
        refine take_first (v := ?_) 3 rfl (by kernel_rfl) (by kernel_rfl) (by kernel_rfl) (fun _ _ _ h => h) (Or.inl ⟨by rfl, ?_⟩) (by assumption) ?_
        rotate_left
        · (intro w hSw; (try dsimp only at hSw); go_simp; try with_reducible rfl)
        (try simp only [Act.put, List.setIfInBounds_toArray, List.set_cons_zero, List.set_cons_succ])
        refine take_first (v := ?_) 4 rfl (by kernel_rfl) (by kernel_rfl) (by kernel_rfl) (fun _ _ _ h => h) (Or.inl ⟨by rfl, ?_⟩) (by assumption) ?_
        rotate_left
        · (intro w hSw; (try dsimp only at hSw); go_simp; try with_reducible rfl)
        (try simp only [Act.put, List.setIfInBounds_toArray, List.set_cons_zero, List.set_cons_succ])
        refine take_first (v := ?_) 5 rfl (by kernel_rfl) (by kernel_rfl) (by kernel_rfl) (fun _ _ _ h => h) (Or.inl ⟨by rfl, ?_⟩) (by assumption) ?_
        rotate_left
        · (intro w hSw; (try dsimp only at hSw); have hc := (Mem.blk hSw 0 rfl).cell (1 + p); rw [AddrM.ip_cell a HO.out (p) (by omega), HX.out] at hc; go_simp; try with_reducible rfl)
        (try simp only [Act.put, List.setIfInBounds_toArray, List.set_cons_zero, List.set_cons_succ])
        refine take_first (v := ?_) 6 rfl (by kernel_rfl) (by kernel_rfl) (by kernel_rfl) (fun _ _ _ h => h) (Or.inl ⟨by rfl, ?_⟩) (by assumption) ?_
        rotate_left
        · (intro w hSw; (try dsimp only at hSw); go_simp; try with_reducible rfl)
        (try simp only [Act.put, List.setIfInBounds_toArray, List.set_cons_zero, List.set_cons_succ])
        refine take_first (v := ?_) 7 rfl (by kernel_rfl) (by kernel_rfl) (by kernel_rfl) (fun _ _ _ h => h) (Or.inl ⟨by rfl, ?_⟩) (by assumption) ?_
        rotate_left
        · (intro w hSw; (try dsimp only at hSw); go_simp; try with_reducible rfl)
        (try simp only [Act.put, List.setIfInBounds_toArray, List.set_cons_zero, List.set_cons_succ])
        refine take_first (v := ?_) 8 rfl (by kernel_rfl) (by kernel_rfl) (by kernel_rfl) (fun _ _ _ h => h) (Or.inl ⟨by rfl, ?_⟩) (by assumption) ?_
        rotate_left
        · (intro w hSw; (try dsimp only at hSw); go_simp; try with_reducible rfl)
        (try simp only [Act.put, List.setIfInBounds_toArray, List.set_cons_zero, List.set_cons_succ])
        refine take_first (v := ?_) 9 rfl (by kernel_rfl) (by kernel_rfl) (by kernel_rfl) (fun _ _ _ h => h) (Or.inl ⟨by rfl, ?_⟩) (by assumption) ?_
        rotate_left
        · (intro w hSw; (try dsimp only at hSw); go_simp; try with_reducible rfl)
        (try simp only [Act.put, List.setIfInBounds_toArray, List.set_cons_zero, List.set_cons_succ])
        refine take_first (v := ?_) 10 rfl (by kernel_rfl) (by kernel_rfl) (by kernel_rfl) (fun _ _ _ h => h) (Or.inl ⟨by rfl, ?_⟩) (by assumption) ?_
        rotate_left
        · (intro w hSw; (try dsimp only at hSw); go_simp; try with_reducible rfl)
        (try simp only [Act.put, List.setIfInBounds_toArray, List.set_cons_zero, List.set_cons_succ])
        refine take_first (v := ?_) 11 rfl (by kernel_rfl) (by kernel_rfl) (by kernel_rfl) (fun _ _ _ h => h) (Or.inl ⟨by rfl, ?_⟩) (by assumption) ?_
        rotate_left
        · (intro w hSw; (try dsimp only at hSw); go_simp; try with_reducible rfl)
        (try simp only [Act.put, List.setIfInBounds_toArray, List.set_cons_zero, List.set_cons_succ])
        refine take_first (v := ?_) 12 rfl (by kernel_rfl) (by kernel_rfl) (by kernel_rfl) (fun _ _ _ h => h) (Or.inl ⟨by rfl, ?_⟩) (by assumption) ?_
        rotate_left
        · (intro w hSw; (try dsimp only at hSw); go_simp; try with_reducible rfl)
        (try simp only [Act.put, List.setIfInBounds_toArray, List.set_cons_zero, List.set_cons_succ])
        refine take_first (v := ?_) 13 rfl (by kernel_rfl) (by kernel_rfl) (by kernel_rfl) (fun _ _ _ h => h) (Or.inl ⟨by rfl, ?_⟩) (by assumption) ?_
        rotate_left
        · (intro w hSw; (try dsimp only at hSw); have hc := (Mem.blk hSw 0 rfl).cell (1 + p1); rw [AddrM.ip_cell a HO.out (p1) (by omega), HY.out] at hc; go_simp; try with_reducible rfl)
        (try simp only [Act.put, List.setIfInBounds_toArray, List.set_cons_zero, List.set_cons_succ])
        refine take_first (v := ?_) 14 rfl (by kernel_rfl) (by kernel_rfl) (by kernel_rfl) (fun _ _ _ h => h) (Or.inl ⟨by rfl, ?_⟩) (by assumption) ?_
        rotate_left
        · (intro w hSw; (try dsimp only at hSw); go_simp; try with_reducible rfl)
        (try simp only [Act.put, List.setIfInBounds_toArray, List.set_cons_zero, List.set_cons_succ])
        refine take_first (v := ?_) 15 rfl (by kernel_rfl) (by kernel_rfl) (by kernel_rfl) (fun _ _ _ h => h) (Or.inl ⟨by rfl, ?_⟩) (by assumption) ?_
        rotate_left
        · (intro w hSw; (try dsimp only at hSw); go_simp; try with_reducible rfl)
        (try simp only [Act.put, List.setIfInBounds_toArray, List.set_cons_zero, List.set_cons_succ])
        refine step_one 16 rfl (by kernel_rfl) (fun K hK => ?_)
        clear hHeld
        go_simp
        refine (HGR.out _).mono ?_
        rintro e wy2 ⟨rfl, hb⟩
        replace HM := Lib.hid (show Mem w [blkE w.heap.size 53 a.cells] wy2 from HM.out.below hb)
        clear hb
        go_wp2_with fail
        refine hK.out _ _ (HM.out) (fun hHeld => ?_)
        clear hK K
        (try simp only [Act.put, List.setIfInBounds_toArray, List.set_cons_zero, List.set_cons_succ])
        refine take_first (v := ?_) 17 rfl (by kernel_rfl) (by kernel_rfl) (by kernel_rfl) (fun _ _ _ h => h) (Or.inl ⟨by rfl, ?_⟩) (by assumption) ?_
        rotate_left
        · (intro w hSw; (try dsimp only at hSw); have ha := HA1.out w; go_simp; try with_reducible rfl)
        (try simp only [Act.put, List.setIfInBounds_toArray, List.set_cons_zero, List.set_cons_succ])
        refine take_first (v := ?_) 18 rfl (by kernel_rfl) (by kernel_rfl) (by kernel_rfl) (fun _ _ _ h => h) (Or.inl ⟨by rfl, ?_⟩) (by assumption) ?_
        rotate_left
        · (intro w hSw; (try dsimp only at hSw); have ha := HA2.out w; go_simp; try with_reducible rfl)
        (try simp only [Act.put, List.setIfInBounds_toArray, List.set_cons_zero, List.set_cons_succ])
        refine take_first (v := ?_) 19 rfl (by kernel_rfl) (by kernel_rfl) (by kernel_rfl) (fun _ _ _ h => h) (Or.inl ⟨by rfl, ?_⟩) (by assumption) ?_
        rotate_left
        · (intro w hSw; (try dsimp only at hSw); go_simp; try with_reducible rfl)
        (try simp only [Act.put, List.setIfInBounds_toArray, List.set_cons_zero, List.set_cons_succ])
        refine wpAnyH_done (by kernel_rfl) ?_ _
        clear hHeld
        go_wp2
        go_roundw
        case rel => exact ⟨j + 1, by omega, by go_num, by rw [HDS.out], HM.out⟩
        case measure => simp [intOf]; omega
      · obtain rfl : j = 8 := by omega
        have HLD := Lib.hid (dot_eight 58 (fun k => hexT (groupV a k)))
        have hdl := dot_len 58 (fun k => hexT (groupV a k)) 4 HF.out 8
        have hne : 1 ≤ (dotT 58 (fun k => hexT (groupV a k)) 8).length := by rw [dot_succ, List.length_append]; simp; omega
        generalize dotT 58 (fun k => hexT (groupV a k)) 8 = e at HLD hdl hne ⊢
        have hsz := text_size e
        have hcut := text_drop e 1 e.length rfl
        have hn1 : (1 : Int) ≤ (e.length : Int) := by omega
        go_wp2
        go_ret
        exact ⟨ret_string (by rw [HV.out, ← HLD.out]; simp), HM.out.bel⟩
end Go.Proofs.YtcbfchkhbngpkaaGreatDoor
namespace Go.Proofs.YtcbfchkhbngpkaaGreatDoor
open Go.RowKit

set_option maxRecDepth 100000 in
set_option maxHeartbeats 4000000 in
theorem refFmtEnd_any (a : AddrM) (ho : a.ok) (port : Int) (w : World) :
    Calls Tryz.prog 29 #[.agg (prefC a port).toArray] w fun e w' => e = .returned (.string ⟨(endT a port).toArray⟩) ∧ Below w.heap.size w w' := by
  have HO := Lib.hid ho
  have HFA := Lib.hid (refFmtAddr_any a ho)
  obtain ⟨ca, hca⟩ : ∃ z, a.cells.toArray = z := ⟨_, rfl⟩
  obtain ⟨ce, hce⟩ : ∃ z, (prefC a port).toArray = z := ⟨_, rfl⟩
  have HUA := Lib.hid (show (Tryz.prog.info? 53).map (·.size) = some a.cells.length from by rw [AddrM.cells_length ho]; kernel_rfl)
  rw [hca] at HFA
  rw [hce]
  have HM := Lib.hid (show Mem w [blkE w.heap.size 55 (prefC a port)] (w.alloc (.cells ce 55)) from (Mem.nil w).alloc rfl 55 ce (prefC a port) hce.symm)
  have HCA := Lib.hid hca
  clear hca hce
  have htl := addrT_len a
  obtain ⟨t, ht⟩ : ∃ z, addrT a = z := ⟨_, rfl⟩
  rw [ht] at HFA htl
  have HT := Lib.hid ht
  go_enter Tryz.func29, Tryz.ntmps29
  go_upto_region 1 with fail
  generalize w.alloc (.cells ce 55) = w1 at HM ⊢
  go_wp2_with (refine wpList_load_obj rfl 53 (.tmp 4) rfl w.heap.size 0 rfl a.cells (pref_at (HM.out.blk 0 rfl) HO.out) _ Tryz.underlying53 rfl HUA.out ?_)
  rw [HCA.out]
  refine (HFA.out _).mono ?_
  rintro e w2 ⟨rfl, hb⟩
  replace HM := Lib.hid (show Mem w [blkE w.heap.size 55 (prefC a port)] w2 from HM.out.below hb)
  clear hb HFA ht ho
  have fx : w2.cell? ⟨w.heap.size, 17, none⟩ = some (.int .i64 port) := by
    have h := (HM.out.blk 0 rfl).cell 17
    rwa [prefC_bits a HO.out port] at h
  have fsix : w2.cell? ⟨w.heap.size, 0, none⟩ = some (.bool a.six) := (HM.out.blk 0 rfl).cell 0
  by_cases hn : t = []
  · have hv : endT a port = [] := by rw [endT, if_pos (.inl (by rw [HT.out, hn]))]
    have HVV := Lib.hid hv
    subst hn
    clear hv
    go_wp2
    go_ret
    exact ⟨ret_string (by rw [HVV.out]), HM.out.bel⟩
  have he : t.isEmpty = false := by cases t with | nil => exact absurd rfl hn | cons _ _ => rfl
  by_cases h1 : port < 1
  · have hv : endT a port = [] := by rw [endT, if_pos (.inr (.inl h1))]
    have HVV := Lib.hid hv
    clear hv
    go_wp2
    go_ret
    exact ⟨ret_string (by rw [HVV.out]), HM.out.bel⟩
  by_cases h2 : 65535 < port
  · have hv : endT a port = [] := by rw [endT, if_pos (.inr (.inr h2))]
    have HVV := Lib.hid hv
    clear hv
    go_wp2
    go_ret
    exact ⟨ret_string (by rw [HVV.out]), HM.out.bel⟩
  obtain ⟨q, rfl⟩ : ∃ q : Nat, port = (q : Int) := ⟨port.toNat, by omega⟩
  have hv : endT a (q : Int) = (if a.six then 91 :: (t ++ [93]) else t) ++ 58 :: decT q := by rw [endT, if_neg (by rw [HT.out]; rintro (h | h | h); exact hn h; exact h1 h; exact h2 h), HT.out, Int.toNat_natCast]
  have HDC := Lib.hid (fun W => refDecimal_any q (by omega) W)
  have hdl := decT_len q 5 (by omega) (by omega)
  generalize decT q = d at hv HDC hdl
  have HV := Lib.hid hv
  clear hv hn
  cases h6 : a.six
  · rw [h6] at fsix
    have HA1 := Lib.hid (fun W => add_text t [58] (by first | omega | (simp; omega)) (by simp) W)
    have ha1 := HA1.out
    have HA2 := Lib.hid (fun W => add_text (t ++ [58]) d (by simp; omega) (by omega) W)
    have ha2 := HA2.out
    replace HV := Lib.hid (show endT a (q : Int) = t ++ 58 :: d from by rw [HV.out, h6]; rfl)
    clear h6
    go_wp2_with fail
    refine (HDC.out _).mono ?_
    rintro e w4 ⟨rfl, hb⟩
    replace HM := Lib.hid (show Mem w [blkE w.heap.size 55 (prefC a (q : Int))] w4 from HM.out.below hb)
    clear hb fx
    go_wp2
    go_ret
    exact ⟨ret_string (by rw [HV.out]; try simp), HM.out.bel⟩
  · rw [h6] at fsix
    have HB1 := Lib.hid (fun W => add_text [91] t (by simp) (by omega) W)
    have HB2 := Lib.hid (fun W => add_text (91 :: t) [93] (by simp; omega) (by simp) W)
    have hb1 := HB1.out
    have hb2 := HB2.out
    have HA1 := Lib.hid (fun W => add_text (91 :: (t ++ [93])) [58] (by first | omega | (simp; omega)) (by simp) W)
    have ha1 := HA1.out
    have HA2 := Lib.hid (fun W => add_text ((91 :: (t ++ [93])) ++ [58]) d (by simp; omega) (by omega) W)
    have ha2 := HA2.out
    replace HV := Lib.hid (show endT a (q : Int) = (91 :: (t ++ [93])) ++ 58 :: d from by rw [HV.out, h6]; rfl)
    clear h6
    go_wp2_with fail
    refine (HDC.out _).mono ?_
    rintro e w4 ⟨rfl, hb⟩
    replace HM := Lib.hid (show Mem w [blkE w.heap.size 55 (prefC a (q : Int))] w4 from HM.out.below hb)
    clear hb fx
    go_wp2
    go_ret
    exact ⟨ret_string (by rw [HV.out]; try simp), HM.out.bel⟩
set_option maxRecDepth 100000 in
set_option maxHeartbeats 4000000 in
theorem refFmtPref_any (a : AddrM) (ho : a.ok) (bits : Int) (h1 : -9223372036854775808 ≤ bits) (h2 : bits ≤ 9223372036854775807) (w : World) :
    Calls Tryz.prog 30 #[.agg (prefC a bits).toArray] w fun e w' => e = .returned (.string ⟨(prefT a bits).toArray⟩) ∧ Below w.heap.size w w' := by
  have HO := Lib.hid ho
  have HFA := Lib.hid (refFmtAddr_any a ho)
  have HVA := Lib.hid (refValid_any a ho bits h1 h2)
  obtain ⟨ca, hca⟩ : ∃ z, a.cells.toArray = z := ⟨_, rfl⟩
  obtain ⟨ce, hce⟩ : ∃ z, (prefC a bits).toArray = z := ⟨_, rfl⟩
  have HUA := Lib.hid (show (Tryz.prog.info? 53).map (·.size) = some a.cells.length from by rw [AddrM.cells_length ho]; kernel_rfl)
  have HUP := Lib.hid (pref_cellsOf a ho bits)
  rw [hca] at HFA
  rw [hce] at HVA ⊢
  have HM := Lib.hid (show Mem w [blkE w.heap.size 60 (prefC a bits)] (w.alloc (.cells ce 60)) from (Mem.nil w).alloc rfl 60 ce (prefC a bits) hce.symm)
  have HCA := Lib.hid hca
  have HCE := Lib.hid hce
  clear hca hce ho
  have htl := addrT_len a
  have hvb := validM_bits a bits
  have HV := Lib.hid (show prefT a bits = if validM a bits = false then [] else addrT a ++ 47 :: decT bits.toNat from rfl)
  generalize addrT a = t at HFA htl HV
  generalize validM a bits = vb at HVA HV hvb
  go_enter Tryz.func30, Tryz.ntmps30
  go_upto_region 1 with fail
  generalize w.alloc (.cells ce 60) = w1 at HM ⊢
  go_wp2_with (refine wpList_load_obj rfl 60 (.tmp 1) rfl w.heap.size 0 rfl (prefC a bits) (HM.out.blk 0 rfl).all _ Tryz.underlying60 rfl HUP.out ?_)
  rw [HCE.out]
  refine (HVA.out _).mono ?_
  rintro e w2 ⟨rfl, hb⟩
  replace HM := Lib.hid (show Mem w [blkE w.heap.size 60 (prefC a bits)] w2 from HM.out.below hb)
  clear hb HVA
  cases vb
  · go_wp2
    go_ret
    exact ⟨ret_string (by rw [HV.out]; try simp), HM.out.bel⟩
  have hbb := hvb rfl
  obtain ⟨q, rfl⟩ : ∃ q : Nat, bits = (q : Int) := ⟨bits.toNat, by omega⟩
  replace HV := Lib.hid (show prefT a (q : Int) = t ++ 47 :: decT q from by rw [HV.out, if_neg (by decide), Int.toNat_natCast])
  have HDC := Lib.hid (fun W => refDecimal_any q (by omega) W)
  have hdl := decT_len q 3 (by omega) (by omega)
  generalize decT q = d at HV HDC hdl
  have HA1 := Lib.hid (fun W => add_text t [47] (by omega) (by simp) W)
  have HA2 := Lib.hid (fun W => add_text (t ++ [47]) d (by simp; omega) (by omega) W)
  clear hvb
  go_upto_region 3 with fail
  refine wp_region_held_drew (S := fun W' => Mem w [blkE w.heap.size 60 (prefC a (q : Int))] W') (by kernel_rfl) ((HM.out).drew) (fun hHeld => ?_)
  replace HM := Lib.hid HM.out.drew
  generalize w2.drew = wd1 at HM hHeld ⊢
  refine take_first (v := ?_) 0 rfl (by kernel_rfl) (by kernel_rfl) (by kernel_rfl) (fun _ _ _ h => h) (Or.inl ⟨by rfl, ?_⟩) (by assumption) ?_
  rotate_left
  · (intro w hSw; (try dsimp only at hSw); go_simp; try with_reducible rfl)
  (try simp only [Act.put, List.setIfInBounds_toArray, List.set_cons_zero, List.set_cons_succ])
  refine take_first (v := .agg ca) 1 rfl (by kernel_rfl) (by kernel_rfl) (by kernel_rfl) (fun _ _ _ h => h) (by rw [← HCA.out]; exact yields_load_obj (by rfl) 53 (.tmp 6) rfl w.heap.size 0 rfl a.cells (fun w' hb => pref_at (Mem.blk hb 0 rfl) HO.out) _ Tryz.underlying53 rfl HUA.out) (by assumption) ?_
  (try simp only [Act.put, List.setIfInBounds_toArray, List.set_cons_zero, List.set_cons_succ])
  refine take_first (v := ?_) 4 rfl (by kernel_rfl) (by kernel_rfl) (by kernel_rfl) (fun _ _ _ h => h) (Or.inl ⟨by rfl, ?_⟩) (by assumption) ?_
  rotate_left
  · (intro w hSw; (try dsimp only at hSw); go_simp; try with_reducible rfl)
  (try simp only [Act.put, List.setIfInBounds_toArray, List.set_cons_zero, List.set_cons_succ])
  refine take_first (v := ?_) 5 rfl (by kernel_rfl) (by kernel_rfl) (by kernel_rfl) (fun _ _ _ h => h) (Or.inl ⟨by rfl, ?_⟩) (by assumption) ?_
  rotate_left
  · (intro w hSw; (try dsimp only at hSw); have hc := (Mem.blk hSw 0 rfl).cell 17; rw [prefC_bits a HO.out _] at hc; go_simp; try with_reducible rfl)
  (try simp only [Act.put, List.setIfInBounds_toArray, List.set_cons_zero, List.set_cons_succ])
  refine step_one 2 rfl (by kernel_rfl) (fun K hK => ?_)
  clear hHeld
  go_simp
  refine (HFA.out _).mono ?_
  rintro e wy2 ⟨rfl, hb⟩
  replace HM := Lib.hid (show Mem w [blkE w.heap.size 60 (prefC a (q : Int))] wy2 from HM.out.below hb)
  clear hb
  go_wp2_with fail
  refine hK.out _ _ (HM.out) (fun hHeld => ?_)
  clear hK K
  (try simp only [Act.put, List.setIfInBounds_toArray, List.set_cons_zero, List.set_cons_succ])
  refine take_first (v := ?_) 3 rfl (by kernel_rfl) (by kernel_rfl) (by kernel_rfl) (fun _ _ _ h => h) (Or.inl ⟨by rfl, ?_⟩) (by assumption) ?_
  rotate_left
  · (intro w hSw; (try dsimp only at hSw); have ha := HA1.out w; go_simp; try with_reducible rfl)
  (try simp only [Act.put, List.setIfInBounds_toArray, List.set_cons_zero, List.set_cons_succ])
  refine step_one 6 rfl (by kernel_rfl) (fun K hK => ?_)
  clear hHeld
  go_simp
  refine (HDC.out _).mono ?_
  rintro e wy3 ⟨rfl, hb⟩
  replace HM := Lib.hid (show Mem w [blkE w.heap.size 60 (prefC a (q : Int))] wy3 from HM.out.below hb)
  clear hb
  go_wp2_with fail
  refine hK.out _ _ (HM.out) (fun hHeld => ?_)
  clear hK K
  (try simp only [Act.put, List.setIfInBounds_toArray, List.set_cons_zero, List.set_cons_succ])
  refine take_first (v := ?_) 7 rfl (by kernel_rfl) (by kernel_rfl) (by kernel_rfl) (fun _ _ _ h => h) (Or.inl ⟨by rfl, ?_⟩) (by assumption) ?_
  rotate_left
  · (intro w hSw; (try dsimp only at hSw); have ha := HA2.out w; go_simp; try with_reducible rfl)
  (try simp only [Act.put, List.setIfInBounds_toArray, List.set_cons_zero, List.set_cons_succ])
  refine take_first (v := ?_) 8 rfl (by kernel_rfl) (by kernel_rfl) (by kernel_rfl) (fun _ _ _ h => h) (Or.inl ⟨by rfl, ?_⟩) (by assumption) ?_
  rotate_left
  · (intro w hSw; (try dsimp only at hSw); go_simp; try with_reducible rfl)
  (try simp only [Act.put, List.setIfInBounds_toArray, List.set_cons_zero, List.set_cons_succ])
  refine wpAnyH_done (by kernel_rfl) ?_ _
  clear hHeld
  go_wp2
  go_ret
  exact ⟨ret_string (by rw [HV.out]; try simp), HM.out.bel⟩
end Go.Proofs.YtcbfchkhbngpkaaGreatDoor
namespace Go.Proofs.YtcbfchkhbngpkaaGreatDoor
open Go.RowKit

theorem wpList_build_as_g {P : Program} {ops : Array Oper} {rest : List Oper} {o : Oper} {a : Act} {w : World} {Q : Exit → Act → World → Prop} (hw : Region.wanted o (yielded ops a.tmps) = true) (t : TypeId) (parts : List (Nat × Operand)) (ho : o.op = .build t parts.toArray) (v : Array Value)
    (hb : P.built t (parts.map fun p => (p.1, a.eval p.2)) = some v) (h : wpList P ops Q rest (a.put o.dst (.agg v)) w) : wpList P ops Q (o :: rest) a w :=
  wpList_step fun K hK => by
    rw [if_pos hw]
    have e : (parts.toArray.map fun (i, x) => (i, a.eval x)).toList = parts.map fun p => (p.1, a.eval p.2) := by simp
    exact wp_build t parts.toArray ho (by rw [e, hb]; rfl) (by rw [e, hb]; exact hK _ _ h)
end Go.Proofs.YtcbfchkhbngpkaaGreatDoor
namespace Go.Proofs.YtcbfchkhbngpkaaGreatDoor
open Go.RowKit

set_option maxRecDepth 100000 in
set_option maxHeartbeats 8000000 in
theorem refTimed_any (n : Int) (w : World) :
    Calls Tryz.prog 64 #[.int .i64 n] w fun e w' => e = .returned (.bool (rightK n)) ∧ w' = w := by
  obtain ⟨y, hy⟩ : ∃ y, rightK n = y := ⟨_, rfl⟩
  rw [hy]
  unfold rightK at hy
  by_cases h0 : n = 0
  · subst h0
    have : y = true := by rw [← hy]; rfl
    subst this
    clear hy
    go_enter Tryz.func64, Tryz.ntmps64
    go_wp2
    go_ret
    exact ⟨rfl, rfl⟩
  · have d0 : (n == 0) = false := by simpa using h0
    by_cases h1 : 1000 ≤ n
    · have d1 : decide (n ≥ 1000) = true := by simpa using h1
      have hyy : decide (n ≤ 1073741824) = y := by rw [← hy, d0, decide_eq_true h1]; rfl
      clear hy
      have HYY := Lib.hid hyy
      go_enter Tryz.func64, Tryz.ntmps64
      go_wp2
      go_ret
      exact ⟨by rw [← HYY.out]; rfl, rfl⟩
    · have d1 : decide (n ≥ 1000) = false := by simpa using h1
      have : y = false := by rw [← hy, d0, decide_eq_false h1]; rfl
      subst this
      clear hy
      go_enter Tryz.func64, Tryz.ntmps64
      go_wp2
      go_ret
      exact ⟨rfl, rfl⟩
set_option maxRecDepth 100000 in
set_option maxHeartbeats 8000000 in
theorem refRight_any (p : PeerM) (A : Option Addr) (c : Nat) (hp : p.ok) (hn : p.al.length ≤ 1000000) (w : World) (hr : PfRd w w.heap.size A p.al.length p.al) :
    Calls Tryz.prog 36 #[.agg (p.cells (.slice A p.al.length c)).toArray] w fun e w' => e = .returned (.bool (rightP p)) ∧ Below w.heap.size w w' := by
  have HP := Lib.hid hp
  have HR := Lib.hid hr
  have HN := Lib.hid hn
  obtain ⟨cx, hcx⟩ : ∃ z, (p.cells (.slice A p.al.length c)).toArray = z := ⟨_, rfl⟩
  rw [hcx]
  have HCX := Lib.hid hcx
  obtain ⟨g, hg⟩ : ∃ g, w.heap.size = g := ⟨_, rfl⟩
  have HG := Lib.hid hg
  have HM := Lib.hid (show Lows w [blkL g 57 (p.cells (.slice A p.al.length c))] (w.alloc (.cells cx 57)) from by have h := (Lows.nil w).alloc 57 cx (p.cells (.slice A p.al.length c)) hcx.symm; rwa [hg] at h)
  obtain ⟨ce, hce⟩ : ∃ z, (prefC p.ea p.ep).toArray = z := ⟨_, rfl⟩
  have HCE := Lib.hid hce
  have hfe := fun W => refFmtEnd_any p.ea hp.2.2.1 p.ep W
  rw [hce] at hfe
  have HFE := Lib.hid hfe
  have HTI := Lib.hid (fun W => refTimed_any p.keep W)
  clear hp hr hn hcx hce hfe
  have fb := peer_has (HM.out.blk 0 rfl).all HP.out
  have fk := peer_keep (HM.out.blk 0 rfl).all HP.out
  have fa := peer_al (HM.out.blk 0 rfl) HP.out
  obtain ⟨u, hu⟩ : ∃ u, p.hasE = u := ⟨_, rfl⟩
  rw [hu] at fb
  have HU := Lib.hid hu
  go_enter Tryz.func36, Tryz.ntmps36
  go_upto_region 1 with fail
  generalize w.alloc (.cells cx 57) = w1 at HM fb fk fa ⊢
  clear hg
  go_cut [29] (fun v29 wx => v29 = .bool (!(rightE p && rightK p.keep)) ∧ Lows w [blkL g 57 (p.cells (.slice A p.al.length c))] wx)
  case first =>
    cases u with
    | true =>
      have HRE := Lib.hid (show rightE p = !(endT p.ea p.ep).isEmpty from by rw [rightE, hu]; rfl)
      clear hu
      go_wp2_with ((with_reducible refine at_op (.load 55 (.tmp 8)) rfl ?_); refine wpList_load_obj_g (by rfl) 55 (.tmp 8) rfl g _ rfl _ (peer_end (HM.out.blk 0 rfl).all HP.out) _ Tryz.underlying55 rfl (end_cellsOf p.ea HP.out.2.2.1 p.ep) ?_; rw [HCE.out])
      have hcall := HFE.out w1
      obtain ⟨t, ht⟩ : ∃ t, endT p.ea p.ep = t := ⟨_, rfl⟩
      rw [ht] at hcall HRE
      obtain ⟨TT, hT⟩ : ∃ S : ByteArray, ⟨t.toArray⟩ = S := ⟨_, rfl⟩
      rw [hT] at hcall
      obtain ⟨q2, q3⟩ := text_eq TT t [] hT _ rfl
      obtain ⟨y, hy⟩ : ∃ y, decide (t = []) = y := ⟨_, rfl⟩
      rw [hy] at q2 q3
      have HRY := Lib.hid (show rightE p = !y from by rw [HRE.out, ← hy]; cases t <;> rfl)
      have HQ := Lib.hid (And.intro q2 q3)
      have HCALL := Lib.hid hcall
      clear hy hT ht q2 q3 hcall HRE fb fk fa
      refine HCALL.out.mono ?_
      rintro e w2 ⟨rfl, hb⟩
      replace HM := Lib.hid (HM.out.below hb)
      clear hb HCALL
      have q2 := HQ.out.1
      have q3 := HQ.out.2
      have fb := peer_has (HM.out.blk 0 rfl).all HP.out
      rw [HU.out] at fb
      have fk := peer_keep (HM.out.blk 0 rfl).all HP.out
      cases y with
      | true =>
        go_wp2_with fail
        go_meet
        exact ⟨by rw [HRY.out]; rfl, HM.out⟩
      | false =>
        go_wp2_with fail
        refine (HTI.out _).mono ?_
        rintro e w3 ⟨rfl, rfl⟩
        clear fb fk q2 q3
        go_wp2_with fail
        go_meet
        exact ⟨by rw [HRY.out]; rfl, HM.out⟩
    | false =>
      have HRE := Lib.hid (show rightE p = decide (p.ea = addr0 ∧ p.ep = 0) from by rw [rightE, HU.out]; rfl)
      have heq := fun W => end_eqd p.ea addr0 p.ep 0 HP.out.2.2.1 addr0_ok HP.out.2.2.2.1 ⟨by decide, by decide⟩ W
      rw [HCE.out, ← HRE.out] at heq
      obtain ⟨y, hy⟩ : ∃ y, rightE p = y := ⟨_, rfl⟩
      simp only [hy] at heq
      have HY := Lib.hid hy
      have HEQ := Lib.hid heq
      clear heq hy HRE
      cases y with
      | true =>
        go_wp2_with (first | ((with_reducible refine at_op (.load 55 (.tmp 18)) rfl ?_); refine wpList_load_obj_g (by rfl) 55 (.tmp 18) rfl g _ rfl _ (peer_end (HM.out.blk 0 rfl).all HP.out) _ Tryz.underlying55 rfl (end_cellsOf p.ea HP.out.2.2.1 p.ep) ?_; rw [HCE.out]) | (refine wpList_build_as_g (by rfl) 55 [] rfl (prefC addr0 0).toArray ?_ ?_; kernel_rfl) | (refine wpList_neq_agg (by rfl) 55 _ 19 20 rfl ce (prefC addr0 0).toArray true rfl rfl end_noguard (HEQ.out _) ?_))
        refine (HTI.out _).mono ?_
        rintro e w3 ⟨rfl, rfl⟩
        clear fb fk fa
        go_wp2_with fail
        go_meet
        exact ⟨by rw [HY.out]; rfl, HM.out⟩
      | false =>
        go_wp2_with (first | ((with_reducible refine at_op (.load 55 (.tmp 18)) rfl ?_); refine wpList_load_obj_g (by rfl) 55 (.tmp 18) rfl g _ rfl _ (peer_end (HM.out.blk 0 rfl).all HP.out) _ Tryz.underlying55 rfl (end_cellsOf p.ea HP.out.2.2.1 p.ep) ?_; rw [HCE.out]) | (refine wpList_build_as_g (by rfl) 55 [] rfl (prefC addr0 0).toArray ?_ ?_; kernel_rfl) | (refine wpList_neq_agg (by rfl) 55 _ 19 20 rfl ce (prefC addr0 0).toArray false rfl rfl end_noguard (HEQ.out _) ?_))
        go_meet
        exact ⟨by rw [HY.out]; rfl, HM.out⟩
  obtain ⟨rfl, hm⟩ := hcut
  clear HM HFE HTI HCE fb fk fa hu HU
  have HM := Lib.hid hm
  have HRP := Lib.hid (show rightP p = ((rightE p && rightK p.keep) && p.al.all fun q => validM q.1 q.2) from rfl)
  obtain ⟨k, hk⟩ : ∃ b, (rightE p && rightK p.keep) = b := ⟨_, rfl⟩
  rw [hk] at HRP ⊢
  clear hk hm
  cases k with
  | false =>
    go_wp2_with fail
    go_ret
    exact ⟨by rw [HRP.out]; rfl, HM.out.bel⟩
  | true =>
    simp only [Bool.not_true]
    have fa := peer_al (HM.out.blk 0 rfl) HP.out
    have HB := Lib.hid HM.out.bel
    have HLN := Lib.hid (show p.al.length = p.al.length from rfl)
    obtain ⟨n, hn⟩ : ∃ n, p.al.length = n := ⟨_, rfl⟩
    rw [hn] at fa HN HR
    replace HLN := Lib.hid hn
    clear hn HM
    go_wp2_with fail
    clear fa
    go_loopw [33] (fun i wr => ∃ j : Nat, j ≤ n ∧ i = .int .i64 (j : Int) ∧ (∀ q z, q < j → p.al[q]? = some z → validM z.1 z.2 = true) ∧ Below w.heap.size w wr) (fun i _ => n - (intOf i).toNat)
    case atStart => exact ⟨0, Nat.zero_le _, rfl, fun q z h => absurd h (Nat.not_lt_zero _), HB.out⟩
    case round =>
      clear HB
      obtain ⟨j, hj, rfl, hno, hb⟩ := hrel
      have HNO := Lib.hid hno
      have HB := Lib.hid hb
      clear hno hb
      by_cases hjn : j < n
      · have d1 : decide ((j : Int) < (n : Int)) = true := by simp; omega
        obtain ⟨b, off, rfl⟩ := HR.out.1.addr (by omega)
        obtain ⟨q, hq⟩ : ∃ q, p.al[j]? = some q := ⟨p.al[j]'(by rw [HLN.out]; exact hjn), List.getElem?_eq_getElem _⟩
        have hok := HR.out.2 q (List.mem_of_getElem? hq)
        have hat := HR.out.1.at j (prefC q.1 q.2) (by rw [pfsV, List.getElem?_map, hq]; rfl)
        have HAT := Lib.hid (hat.2.mono HB.out hat.1)
        have HQ := Lib.hid (And.intro hq hok)
        obtain ⟨oc, hoc⟩ : ∃ z, (prefC q.1 q.2).toArray = z := ⟨_, rfl⟩
        have HOC := Lib.hid hoc
        have HZ := Lib.hid (show Blk (wr.alloc (.cells (prefC addr0 0).toArray 60)) wr.heap.size 60 (prefC addr0 0) from Blk.new wr 60 (prefC addr0 0))
        have hal := (Below.refl wr.heap.size wr).alloc (Nat.le_refl _) (.cells (prefC addr0 0).toArray 60)
        clear hq hok hat hoc
        go_upto_region 6 with (first | ((with_reducible refine at_op (.load 60 (.tmp 35)) rfl ?_); refine wpList_load_obj rfl 60 (.tmp 35) rfl b _ rfl _ HAT.out _ Tryz.underlying60 rfl (pref_cellsOf' q.1 HQ.out.2.1 q.2) ?_; rw [HOC.out]) | ((with_reducible refine at_op (.store 60 (.tmp 4) (.tmp 36)) rfl ?_); refine wpList_store_obj rfl 60 (.tmp 4) (.tmp 36) rfl wr.heap.size 0 (prefC q.1 q.2) rfl (by show Value.agg oc = _; rw [HOC.out]) 60 (prefC addr0 0) HZ.out (pref_cellsOf' q.1 HQ.out.2.1 q.2) (by rw [prefC_length q.1 HQ.out.2.1]; decide) (pref_oneR q.1 q.2) ?_; intro w2 hb2 hg2))
        rw [setL_all _ _ (by rw [prefC_length q.1 HQ.out.2.1]; rfl)] at hb2
        have hbl2 : Below wr.heap.size wr w2 := hal.grown hg2 (by simp) (by intro k hk; injection hk with hk; omega)
        have HB2 := Lib.hid hb2
        have HW2 := Lib.hid (HB.out.trans (hbl2.mono HB.out.size))
        have hvl := refValid_any q.1 HQ.out.2.1 q.2 HQ.out.2.2.1 HQ.out.2.2.2 w2
        rw [HOC.out] at hvl
        obtain ⟨y, hy⟩ : ∃ y, validM q.1 q.2 = y := ⟨_, rfl⟩
        rw [hy] at hvl
        have HVL := Lib.hid hvl
        have HY := Lib.hid hy
        generalize wr.heap.size = g2 at HB2 ⊢
        clear hb2 hg2 hbl2 hal HZ HAT HB hvl hy
        go_wp2_with ((with_reducible refine at_op (.load 60 (.tmp 4)) rfl ?_); refine wpList_load_obj rfl 60 (.tmp 4) rfl g2 0 rfl _ HB2.out.all _ Tryz.underlying60 rfl (pref_cellsOf' q.1 HQ.out.2.1 q.2) ?_; rw [HOC.out])
        refine HVL.out.mono ?_
        rintro e w3 ⟨rfl, hb⟩
        have HW3 := Lib.hid (HW2.out.trans (hb.mono HW2.out.size))
        clear hb HVL
        cases y with
        | false =>
          have HF := Lib.hid (show rightP p = false from by
            rw [HRP.out, Bool.true_and]
            exact List.all_eq_false.2 ⟨q, List.mem_of_getElem? HQ.out.1, by rw [HY.out]; simp⟩)
          go_wp2_with fail
          go_ret
          exact ⟨by rw [HF.out]; rfl, HW3.out⟩
        | true =>
          obtain ⟨j2, hj2⟩ : ∃ z, j + 1 = z := ⟨_, rfl⟩
          have e8 : (j : Int) + 1 = (j2 : Int) := by omega
          have w8' : IntKind.i64.wrap (j2 : Int) = (j2 : Int) := by have := HN.out; rw [IntKind.wrap_i64]; omega
          have HJ2 := Lib.hid (show j2 ≤ n ∧ n - j2 < n - j ∧ j2 = j + 1 from by omega)
          clear hj2 hj hjn d1
          go_wp2_with fail
          go_roundw
          case rel => exact ⟨j2, HJ2.out.1, rfl, fun i z hi hz => by
            rcases Nat.lt_or_ge i j with h | h
            · exact HNO.out i z h hz
            · obtain rfl : i = j := by have := HJ2.out.2.2; omega
              rw [HQ.out.1] at hz
              injection hz with hz
              rw [← hz]; exact HY.out, HW3.out⟩
          case measure => simp [intOf]; exact HJ2.out.2.1
      · obtain rfl : j = n := by omega
        have d1 : decide ((j : Int) < (j : Int)) = false := by simp
        have HT := Lib.hid (show rightP p = true from by
          rw [HRP.out, Bool.true_and, List.all_eq_true]
          intro z hz
          obtain ⟨i, hi, rfl⟩ := List.getElem_of_mem hz
          exact HNO.out i _ (by have := HLN.out; omega) (List.getElem?_eq_getElem hi))
        go_wp2_with fail
        go_ret
        exact ⟨by rw [HT.out]; rfl, HB.out⟩
end Go.Proofs.YtcbfchkhbngpkaaGreatDoor
namespace Go.Proofs.YtcbfchkhbngpkaaGreatDoor
open Go.RowKit

theorem key_cellsOf (k : List UInt8) (h : k.length = 32) : (Tryz.prog.info? 24).map (·.size) = some (k.map u8v).length := by
  rw [List.length_map, h]; kernel_rfl
end Go.Proofs.YtcbfchkhbngpkaaGreatDoor
