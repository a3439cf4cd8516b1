/-
  The contract of slices.Grow of the nil slice of structs. The contract of slices.Concat of slices of structs. The predicates that the program's routes hand on. A route between two pieces of a list of routes: what Concat gives. The contracts of inner's size and first: how many bits an address has, and an address without the bits behind the first ones. The contracts of inner's size, first and address. No statement is proved here.
-/
import Derived.RegionTactic
import Derived.Deep.DeepCutAuto
import Derived.Test.YtnblofbbbkjhpaaRoutesOrdersB3
namespace Go.Proofs.Ytnblofbbbkjhpaa
open Go.RowKit

set_option maxRecDepth 100000 in
set_option maxHeartbeats 16000000 in
theorem rtGrow_any (n : Nat) (hn : n ≤ 1000) (w : World) :
    Calls Try.prog 52 #[.slice none 0 0, .int .i64 (n : Int)] w fun e w' => ∃ v, e = .returned v ∧ w'.ownsRow w.heap.size 37 50 v 0 [] ∧ Below w.heap.size w w' := by
  obtain ⟨ik, hik, hiz, his, hib⟩ := routeInfo
  have HKI := Lib.hid (And.intro hik (And.intro hiz (And.intro his hib)))
  clear hik hiz his hib
  have q1 : IntKind.i64.wrap (n : Int) = (n : Int) := IntWalk.i64_in _ (by omega)
  rcases Nat.eq_zero_or_pos n with h0 | h0
  · subst h0
    go_enter Try.func52, Try.ntmps52
    go_wp2
    go_ret
    exact ⟨_, rfl, World.ownsRow_nil _ _ _ _, Below.refl _ _⟩
  · have d1 : decide ((n : Int) > 0) = true := by simp; omega
    have d2 : decide ((n : Int) < 0) = false := by simp
    have happ := Lib.run_append_nil_zeros (P := Try.prog) w 23 3 23 37 ik (.agg routeZ.toArray) .i64 .i64 Try.underlying23 Try.underlying3 HKI.out.1 HKI.out.2.1 n h0 (by rw [HKI.out.2.2.1]; omega) (by omega) (by rw [HKI.out.2.2.2]; omega)
    have hge := grownCap_ge w n 0 37
    have hcm := grownCap_le_maxLen w n 0 37 (by unfold maxLen; omega)
    obtain ⟨cp, hcp⟩ : ∃ z, grownCap w n 0 37 = z := ⟨_, rfl⟩
    rw [hcp] at happ hge hcm
    obtain ⟨cur, hcur⟩ : ∃ z, Builtin.zeroCells (Value.agg routeZ.toArray).cells n ++ Builtin.zeroCells (Value.agg routeZ.toArray).cells (cp - n) = z := ⟨_, rfl⟩
    have HS := Lib.hid (show cur.size = cp * 50 by
      rw [← hcur, Array.size_append, size_zeroCells, size_zeroCells, show (Value.agg routeZ.toArray).cells.size = 50 by rfl, ← Nat.add_mul]
      congr 1
      omega)
    rw [hcur] at happ
    have HA := Lib.hid happ
    have HC := Lib.hid hcm
    have hsl := rt_h (some ⟨w.heap.size, 0, none⟩) (n := n) cp 0 (Nat.zero_le _) hge
    rw [addrK_zero_some, show ((0 : Nat) : Int) = 0 from rfl] at hsl
    clear happ hge hcm hcp hcur
    go_enter Try.func52, Try.ntmps52
    go_wp2_with (at_builtin; refine Lib.wpList_append_run _ rfl _ _ _ _ rfl _ _ rfl rfl _ _ HA.out ?_)
    go_ret
    exact ⟨_, rfl, World.ownsRow_made w.drew cur cp (Nat.le_refl _) HC.out HS.out, (Below.refl _ _).drew.alloc (Nat.le_refl _) _⟩
end Go.Proofs.Ytnblofbbbkjhpaa
namespace Go.Proofs.Ytnblofbbbkjhpaa
open Go.RowKit

/-- slices of objects: where each lies, its length and capacity, and what it holds -/
abbrev RtPart := (Option Addr × Nat × Nat) × List (List Value)
def rtPartV (x : RtPart) : Value := .slice x.1.1 x.1.2.1 x.1.2.2
def rtLenP (ps : List RtPart) : Nat := (ps.map fun x => x.1.2.1).sum
theorem rtLenP_snoc {ps : List RtPart} {j : Nat} {x : RtPart} (h : ps[j]? = some x) : rtLenP (ps.take (j + 1)) = rtLenP (ps.take j) + x.1.2.1 := by
  rw [rtLenP, take_snoc h, List.map_append, List.sum_append]
  simp [rtLenP]
theorem rtLenP_take (ps : List RtPart) (j : Nat) : rtLenP (ps.take j) ≤ rtLenP ps := by
  have h := congrArg rtLenP (List.take_append_drop j ps)
  rw [rtLenP, List.map_append, List.sum_append] at h
  unfold rtLenP at *
  omega
theorem rtFlat_snoc {ps : List RtPart} {j : Nat} {x : RtPart} (h : ps[j]? = some x) : ((ps.take (j + 1)).flatMap (·.2)).flatten = ((ps.take j).flatMap (·.2)).flatten ++ x.2.flatten := by
  rw [take_snoc h, List.flatMap_append, List.flatten_append]
  simp
set_option maxRecDepth 100000 in
set_option maxHeartbeats 16000000 in
theorem rtConcat_any (b off q c : Nat) (ps : List RtPart) (hq : ps.length = q) (hq1 : q ≤ 1000) (hsum : rtLenP ps ≤ 1000) (w : World) (hlt : b < w.heap.size) (hat : At w b off (ps.map rtPartV)) (hps : ∀ x ∈ ps, RdRow w w.heap.size x.1.1 50 x.1.2.1 x.2 ∧ ∀ o ∈ x.2, ∀ v ∈ o, v.oneCell' = true) :
    Calls Try.prog 36 #[.slice (some ⟨b, off, none⟩) q c] w fun e w' => ∃ A' c', e = .returned (.slice A' (rtLenP ps) c') ∧ w'.ownsRow w.heap.size 37 50 (.slice A' (rtLenP ps) c') (rtLenP ps) (ps.flatMap (·.2)).flatten ∧ Below w.heap.size w w' := by
  have HAT := Lib.hid (show ∀ W, Below w.heap.size w W → At W b off (ps.map rtPartV) from fun W hW j v hv => (World.cell?_of_block (hW.block b hlt)).trans (hat j v hv))
  have HPS := Lib.hid hps
  have HQ := Lib.hid (And.intro hq hq1)
  have HSM := Lib.hid (show ∀ j, rtLenP (ps.take j) ≤ 1000 from fun j => Nat.le_trans (rtLenP_take ps j) hsum)
  obtain ⟨ik, hik, hiz, his, hib⟩ := routeInfo
  have HKI := Lib.hid (And.intro hik (And.intro hiz (And.intro his hib)))
  clear hik hiz his hib
  obtain ⟨tot, htot⟩ : ∃ z, rtLenP ps = z := ⟨_, rfl⟩
  rw [htot] at hsum
  have HGR := Lib.hid (rtGrow_any tot hsum)
  have HTOT := Lib.hid htot
  rw [htot]
  clear hat hps hq htot
  go_enter Try.func36, Try.ntmps36
  go_wp2_with fail
  go_loopw [11, 3] (fun vj vs wr => ∃ j s : Nat, j ≤ q ∧ vj = .int .i64 (j : Int) ∧ vs = .int .i64 (s : Int) ∧ rtLenP (ps.take j) = s ∧ Below w.heap.size w wr) (fun vj _ _ => q - (intOf vj).toNat)
  case atStart => exact ⟨0, 0, Nat.zero_le _, rfl, rfl, rfl, Below.refl _ _⟩
  case round =>
    obtain ⟨j, s, hj, rfl, rfl, hs, hbl⟩ := hrel
    have HBL := Lib.hid hbl
    have HS := Lib.hid hs
    clear hbl hs
    by_cases hjq : j < q
    · have d1 : decide ((j : Int) < (q : Int)) = true := by simp; omega
      obtain ⟨x, hx⟩ : ∃ x, ps[j]? = some x := ⟨ps[j]'(by rw [HQ.out.1]; exact hjq), List.getElem?_eq_getElem _⟩
      have hc := HAT.out wr HBL.out j (rtPartV x) (by rw [List.getElem?_map, hx]; rfl)
      have hsn := rtLenP_snoc hx
      rw [HS.out] at hsn
      obtain ⟨⟨Ax, nx, cx⟩, ox⟩ := x
      have hc' : wr.cell? ⟨b, off + j, none⟩ = some (.slice Ax nx cx) := hc
      have hb1 := HSM.out (j + 1)
      rw [hsn] at hb1
      have HSN := Lib.hid hsn
      clear hc hsn hx
      have hb2 : s + nx ≤ 1000 := hb1
      have d2 : decide ((s : Int) + (nx : Int) < 0) = false := by simp; omega
      clear hb1
      go_wp2_with fail
      go_roundw
      case rel => exact ⟨j + 1, s + nx, by omega, by go_num, by go_num, HSN.out, by assumption⟩
      case measure => simp [intOf]; omega
    · obtain rfl : q = j := by omega
      have d1 : decide ((q : Int) < (q : Int)) = false := by simp
      have hst : tot = s := by rw [← HTOT.out, ← HS.out, List.take_of_length_le (by rw [HQ.out.1]; exact Nat.le_refl _)]
      subst hst
      clear HS
      go_wp2_with fail
      refine (HGR.out _).mono ?_
      rintro e w2 ⟨v2, rfl, hown, hb⟩
      have HO := Lib.hid (And.intro (own_base hown HBL.out.size) (HBL.out.trans (hb.mono HBL.out.size)))
      clear hown hb HBL HGR
      go_wp2_with fail
      go_loopw [27, 6] (fun vj vo wr => ∃ j s : Nat, j ≤ q ∧ vj = .int .i64 (j : Int) ∧ rtLenP (ps.take j) = s ∧ wr.ownsRow w.heap.size 37 50 vo s ((ps.take j).flatMap (·.2)).flatten ∧ Below w.heap.size w wr) (fun vj _ _ => q - (intOf vj).toNat)
      case atStart => exact ⟨0, 0, Nat.zero_le _, rfl, rfl, HO.out.1, HO.out.2⟩
      case round =>
        clear HO
        obtain ⟨j, s, hj, rfl, hs, hown, hbl⟩ := hrel
        have HO := Lib.hid (And.intro hown hbl)
        have HS := Lib.hid hs
        clear hown hbl hs
        by_cases hjq : j < q
        · have d1 : decide ((j : Int) < (q : Int)) = true := by simp; omega
          obtain ⟨x, hx⟩ : ∃ x, ps[j]? = some x := ⟨ps[j]'(by rw [HQ.out.1]; exact hjq), List.getElem?_eq_getElem _⟩
          have hc := HAT.out _ HO.out.2 j (rtPartV x) (by rw [List.getElem?_map, hx]; rfl)
          have hsn := rtLenP_snoc hx
          rw [HS.out] at hsn
          have HFS := Lib.hid (rtFlat_snoc hx)
          have hpx := HPS.out x (List.mem_of_getElem? hx)
          obtain ⟨⟨Ax, nx, cx⟩, ox⟩ := x
          have hc' := hc
          simp only [rtPartV] at hc'
          have hb1 := HSM.out (j + 1)
          rw [hsn] at hb1
          have HSN := Lib.hid (And.intro hsn hb1)
          have HPX := Lib.hid (And.intro ((hpx.1.below HO.out.2).mono HO.out.2.size) (one_flat hpx.2))
          clear hc hsn hx hb1 hpx
          go_wp2_with (refine wpList_append_rows _ rfl (.tmp 31) (.tmp 32) 23 rfl w.heap.size 37 ik _ 50 64 Try.underlying23 HKI.out.1 HKI.out.2.1 HKI.out.2.2.1 HKI.out.2.2.2 (by rfl) (by omega) u6 s _ rfl HO.out.1 _ Ax nx cx ox rfl HPX.out.1 HPX.out.2 (by unfold maxLen; have := HSN.out.2; simp only at this; omega) (by have := HSN.out.2; simp only at this; omega) HO.out.2.size ?_; intro v6 w6 ho6 hg6 _)
          go_roundw
          case rel => exact ⟨j + 1, s + nx, by omega, by go_num, HSN.out.1, by rw [HFS.out]; exact ho6, HO.out.2.grown hg6 HO.out.2.size (own_from HO.out.1)⟩
          case measure => simp [intOf]; omega
        · obtain rfl : q = j := by omega
          have d1 : decide ((q : Int) < (q : Int)) = false := by simp
          have htk : ps.take q = ps := List.take_of_length_le (by rw [HQ.out.1]; exact Nat.le_refl _)
          have hst : s = tot := by rw [← HTOT.out, ← HS.out, htk]
          subst hst
          rw [htk] at HO
          obtain ⟨A9, c9, rfl, -, -, -⟩ := own_sliceK HO.out.1
          have HF := Lib.hid HO.out
          clear HO HS htk
          go_wp2
          go_ret
          exact ⟨A9, c9, rfl, HF.out.1, HF.out.2⟩
end Go.Proofs.Ytnblofbbbkjhpaa
namespace Go.Proofs.Ytnblofbbbkjhpaa
open Go.RowKit

set_option maxRecDepth 100000 in
set_option maxHeartbeats 8000000 in
theorem insPred_any (a : AddrM) (bits : Int) (hoa : a.ok) (hob : inI64 bits) (r : RouteM) (hr : r.ok) (G : Nat) (W : World) (hG : G < W.heap.size) (hat : At W G 0 (prefC a bits)) :
    Calls Try.prog 35 #[.agg r.cells.toArray, .pointer (some ⟨G, 0, none⟩)] W fun e W' => e = .returned (.bool (RouteM.is a bits r)) ∧ Below W.heap.size W W' := by
  have heq := pref_eqd r.a a r.bits bits hr.1 hoa hr.2.2 hob
  have HU := Lib.hid (pref_cellsOf' a hoa bits)
  have HR := Lib.hid hr
  obtain ⟨rc, hrc⟩ : ∃ z, r.cells.toArray = z := ⟨_, rfl⟩
  obtain ⟨fc, hfc⟩ : ∃ z, (prefC r.a r.bits).toArray = z := ⟨_, rfl⟩
  obtain ⟨pa, hpa⟩ : ∃ z, (prefC a bits).toArray = z := ⟨_, rfl⟩
  obtain ⟨y, hy⟩ : ∃ y, RouteM.is a bits r = y := ⟨_, rfl⟩
  have hy' : decide (r.a = a ∧ r.bits = bits) = y := hy
  rw [hfc, hpa, hy'] at heq
  rw [hrc, hy]
  have HEQ := Lib.hid heq
  have HFC := Lib.hid hfc
  have HPA := Lib.hid hpa
  have hb := (Below.refl W.heap.size W).alloc (Nat.le_refl _) (.cells rc 37)
  have HP := Lib.hid (show Blk (W.alloc (.cells rc 37)) W.heap.size 37 r.cells from by rw [← hrc]; exact Blk.new W 37 r.cells)
  have HAT := Lib.hid (show At (W.alloc (.cells rc 37)) G 0 (prefC a bits) from hat.mono hb hG)
  have HB := Lib.hid hb
  clear heq hr hat hrc hfc hpa hy hy' hb
  go_enter Try.func35, Try.ntmps35
  go_upto_region 1 with fail
  generalize W.alloc (.cells rc 37) = w1 at HP HAT HB ⊢
  generalize W.heap.size = P1 at HP ⊢
  go_wp2_with (first | (refine wpList_load_obj rfl 28 (.tmp 4) rfl P1 0 rfl (prefC r.a r.bits) (route_pref HP.out.all) _ Try.underlying28 rfl (pref_cellsOf' r.a HR.out.1 r.bits) ?_; rw [HFC.out]) | (refine wpList_load_obj rfl 28 (.tmp 1) rfl G 0 rfl (prefC a bits) HAT.out _ Try.underlying28 rfl HU.out ?_; rw [HPA.out]) | (refine wpList_eql_agg (by rfl) 28 28 5 6 rfl fc pa y rfl rfl prefix_noguard (HEQ.out _) ?_))
  go_ret
  exact ⟨rfl, HB.out⟩
/-- the predicate on cells: the first eighteen of them are those of a prefix -/
noncomputable def prefP (a : AddrM) (b : Int) (o : List Value) : Bool := @decide (o.take 18 = prefC a b) (Classical.propDecidable _)
theorem prefP_is {a : AddrM} {b : Int} (ha : a.ok) {r : RouteM} (hr : r.ok) : prefP a b r.cells = RouteM.is a b r := by
  unfold prefP RouteM.is
  rw [Bool.eq_iff_iff, @decide_eq_true_iff _ (Classical.propDecidable _), decide_eq_true_iff, RouteM.cells, List.take_left' (prefC_length r.a hr.1 _), prefC_inj hr.1 ha]
theorem rts_mem {l : List RouteM} (h : ∀ r ∈ l, r.ok) {o : List Value} (ho : o ∈ rtsV l) : ∃ r : RouteM, r.ok ∧ r.cells = o := by
  obtain ⟨r, hr, rfl⟩ := List.mem_map.1 ho
  exact ⟨r, h r hr, rfl⟩
theorem rts_one (l : List RouteM) : ∀ o ∈ rtsV l, ∀ v ∈ o, v.oneCell' = true := fun o ho v hv => by
  obtain ⟨r, _, rfl⟩ := List.mem_map.1 ho
  exact route_one r v hv
end Go.Proofs.Ytnblofbbbkjhpaa
namespace Go.Proofs.Ytnblofbbbkjhpaa
open Go.RowKit

theorem RdRow.ahead {W : World} {B k n : Nat} {A : Option Addr} {os : List (List Value)} (h : RdRow W B A k n os) (i c : Nat) (hi : i ≤ n) : RdRow W B (addrK A 0 c k) k i (os.take i) := by
  rcases Nat.eq_zero_or_pos i with h0 | h0
  · subst h0
    rw [List.take_zero]
    exact RdRow.nil
  · obtain ⟨b, off, rfl⟩ := h.addr (by omega)
    rw [addrK_zero_some]
    exact h.take i hi
def catV (A : Option Addr) (n c i j g1 : Nat) : List Value := [.slice (addrK A 0 c 50) i c, .slice (some ⟨g1, 0, none⟩) 1 1, .slice (addrK A j c 50) (n - j) (c - j)]
theorem cat_any (A : Option Addr) (n c i j : Nat) (l : List RouteM) (r : RouteM) (hn : n ≤ 100) (hnc : n ≤ c) (hi : i ≤ n) (hj : j ≤ n) (hok : r.ok) (g1 g2 : Nat) (t2 : TypeId) (W : World) (hr : RtRd W W.heap.size A n l) (h1 : Blk W g1 37 r.cells) (h2 : Blk W g2 t2 (catV A n c i j g1)) :
    Calls Try.prog 36 #[.slice (some ⟨g2, 0, none⟩) 3 3] W fun e w' => ∃ A' c', e = .returned (.slice A' (i + (1 + (n - j))) c') ∧ RtRd w' w'.heap.size A' (i + (1 + (n - j))) (l.take i ++ r :: l.drop j) ∧ (i + (1 + (n - j)) ≤ c' ∧ c' ≤ maxLen) ∧ Below W.heap.size W w' := by
  have hl := hr.len
  have hlen : rtLenP [((addrK A 0 c 50, i, c), rtsV (l.take i)), ((some ⟨g1, 0, none⟩, 1, 1), [r.cells]), ((addrK A j c 50, n - j, c - j), rtsV (l.drop j))] = i + (1 + (n - j)) := rfl
  have h := rtConcat_any g2 0 3 3 [((addrK A 0 c 50, i, c), rtsV (l.take i)), ((some ⟨g1, 0, none⟩, 1, 1), [r.cells]), ((addrK A j c 50, n - j, c - j), rtsV (l.drop j))] rfl (by omega) (by rw [hlen]; omega) W h2.lt h2.all (by
    intro x hx
    simp only [List.mem_cons, List.not_mem_nil, or_false] at hx
    rcases hx with rfl | rfl | rfl
    · exact ⟨by rw [← rtsV_take]; exact hr.1.ahead i c hi, rts_one _⟩
    · refine ⟨⟨rfl, fun o ho => ?_, fun _ => ⟨g1, 0, rfl, h1.lt, fun q v hq => ?_⟩⟩, fun o ho => ?_⟩
      · rw [List.mem_singleton] at ho; subst ho; exact RouteM.cells_length hok
      · rw [Nat.zero_add, h1.cell]; simpa using hq
      · rw [List.mem_singleton] at ho; subst ho; exact route_one r
    · exact ⟨by rw [← rtsV_drop]; exact hr.1.behind j c hj hnc, rts_one _⟩)
  rw [hlen] at h
  refine h.mono ?_
  rintro e w' ⟨A', c', rfl, ho, hb⟩
  obtain ⟨A9, c9, hv, hc1, hc2, -⟩ := own_sliceK ho
  injection hv with _ _ hc
  subst hc
  refine ⟨A', c', rfl, RtRd.of_own ?_ ?_ (show w'.ownsRow W.heap.size 37 50 (.slice A' (i + (1 + (n - j))) c') (i + (1 + (n - j))) (rtsV (l.take i ++ r :: l.drop j)).flatten from ?_), ⟨hc1, hc2⟩, hb⟩
  · rw [List.length_append, List.length_cons, List.length_take, List.length_drop, hl]; omega
  · intro q hq
    rcases List.mem_append.1 hq with hq | hq
    · exact hr.2 q (List.mem_of_mem_take hq)
    · rcases List.mem_cons.1 hq with rfl | hq
      · exact hok
      · exact hr.2 q (List.mem_of_mem_drop hq)
  · have e : ([((addrK A 0 c 50, i, c), rtsV (l.take i)), ((some ⟨g1, 0, none⟩, 1, 1), [r.cells]), ((addrK A j c 50, n - j, c - j), rtsV (l.drop j))] : List RtPart).flatMap (·.2) = rtsV (l.take i ++ r :: l.drop j) := by simp [rtsV]
    rw [← e]
    exact ho
theorem idxM_pref {l : List RouteM} (h : ∀ r ∈ l, r.ok) {a : AddrM} (ha : a.ok) (b : Int) : idxM (prefP a b) (rtsV l) = match findM a b l with
    | none => -1
    | some i => (i : Int) := by
  have e : (rtsV l).findIdx? (prefP a b) = findM a b l := by
    rw [rtsV, List.findIdx?_map, findM]
    have key : ∀ m : List RouteM, (∀ r ∈ m, r.ok) → m.findIdx? (prefP a b ∘ RouteM.cells) = m.findIdx? (RouteM.is a b) := by
      intro m
      induction m with
      | nil => intro _; rfl
      | cons x m ih =>
        intro hm
        rw [List.findIdx?_cons, List.findIdx?_cons, ih (fun r hr => hm r (List.mem_cons_of_mem _ hr))]
        simp only [Function.comp_apply, prefP_is ha (hm x (List.mem_cons_self ..))]
    exact key l h
  unfold idxM
  rw [e]
  all_goals (cases findM a b l <;> rfl)
end Go.Proofs.Ytnblofbbbkjhpaa
namespace Go.Proofs.Ytnblofbbbkjhpaa
open Go.RowKit

/-- a byte without the bits behind the first m -/
def cutByte (x : UInt8) (m : Nat) : UInt8 := x &&& ~~~(UInt8.ofNat (255 / 2 ^ m))
theorem cut_all : ∀ m : Fin 8, ∀ n : Fin 256, bits BinOp.andNot IntKind.u8 (n.val : Int) ((255 / 2 ^ m.val : Nat) : Int) = ((cutByte (UInt8.ofNat n.val) m.val).toNat : Int) := by decide +kernel
theorem cut_bits (x : UInt8) (m : Nat) (h : m < 8) : bits BinOp.andNot IntKind.u8 (x.toNat : Int) (255 / 2 ^ m) = ((cutByte x m).toNat : Int) := by
  have h1 := cut_all ⟨m, h⟩ ⟨x.toNat, x.toNat_lt⟩
  simp only [UInt8.ofNat_toNat] at h1
  rw [← h1, Int.natCast_ediv, Int.natCast_pow]
  rfl
theorem bit_cut_all : ∀ m : Fin 8, ∀ k : Fin 8, ∀ x : Fin 256, (cutByte (UInt8.ofNat x.val) m.val).toNat / 2 ^ (7 - k.val) % 2 = if k.val < m.val then x.val / 2 ^ (7 - k.val) % 2 else 0 := by decide +kernel
theorem bit_cut (x : UInt8) (m k : Nat) (hm : m < 8) (hk : k < 8) : (cutByte x m).toNat / 2 ^ (7 - k) % 2 = if k < m then x.toNat / 2 ^ (7 - k) % 2 else 0 := by
  have h := bit_cut_all ⟨m, hm⟩ ⟨k, hk⟩ ⟨x.toNat, x.toNat_lt⟩
  simp only [UInt8.ofNat_toNat] at h
  exact h
/-- an address without the bits behind the first k -/
def firstM (a : AddrM) (k : Nat) : AddrM := if k / 8 < 16 then ⟨a.six, (a.ip.set (k / 8) (cutByte (a.ip.getD (k / 8) 0) (k % 8))).take (k / 8 + 1) ++ List.replicate (15 - k / 8) 0⟩ else a
theorem firstM_ok (a : AddrM) (h : a.ok) (k : Nat) : (firstM a k).ok := by
  unfold firstM
  split
  · simp only [AddrM.ok, List.length_append, List.length_take, List.length_set, List.length_replicate]
    have : a.ip.length = 16 := h
    omega
  · exact h
theorem firstM_six (a : AddrM) (k : Nat) : (firstM a k).six = a.six := by unfold firstM; split <;> rfl
theorem firstM_bit (a : AddrM) (h : a.ok) (k i : Nat) (hi : i < 128) : bitM (firstM a k).ip i = if i < k then bitM a.ip i else 0 := by
  have hl : a.ip.length = 16 := h
  unfold firstM
  by_cases hk : k / 8 < 16
  · rw [if_pos hk]
    unfold bitM
    dsimp only
    rw [List.getD_eq_getElem?_getD, List.getElem?_append, List.length_take, List.length_set, List.getElem?_take]
    by_cases h1 : i / 8 < k / 8
    · rw [if_pos (by omega), if_pos (by omega), List.getElem?_set_ne (by omega), if_pos (by omega), ← List.getD_eq_getElem?_getD]
    · by_cases h2 : i / 8 = k / 8
      · rw [if_pos (by omega), if_pos (by omega), h2, List.getElem?_set_self (by omega), Option.getD_some, bit_cut _ _ _ (by omega) (by omega)]
        by_cases h3 : i % 8 < k % 8
        · rw [if_pos h3, if_pos (by omega)]
        · rw [if_neg h3, if_neg (by omega)]
      · rw [if_neg (by omega), if_neg (by omega), List.getElem?_replicate]
        split <;> simp
  · rw [if_neg hk, if_pos (by omega)]
/-- bytes whose bits are the same are the same -/
theorem byte_sum : ∀ x : Fin 256, x.val = 128 * (x.val / 2 ^ (7 - 0) % 2) + 64 * (x.val / 2 ^ (7 - 1) % 2) + 32 * (x.val / 2 ^ (7 - 2) % 2) + 16 * (x.val / 2 ^ (7 - 3) % 2) + 8 * (x.val / 2 ^ (7 - 4) % 2) + 4 * (x.val / 2 ^ (7 - 5) % 2) + 2 * (x.val / 2 ^ (7 - 6) % 2) + x.val / 2 ^ (7 - 7) % 2 := by decide +kernel
theorem byte_bits (x y : UInt8) (h : ∀ k, k < 8 → x.toNat / 2 ^ (7 - k) % 2 = y.toNat / 2 ^ (7 - k) % 2) : x = y := by
  have hx := byte_sum ⟨x.toNat, x.toNat_lt⟩
  have hy := byte_sum ⟨y.toNat, y.toNat_lt⟩
  simp only [] at hx hy
  rw [h 0 (by omega), h 1 (by omega), h 2 (by omega), h 3 (by omega), h 4 (by omega), h 5 (by omega), h 6 (by omega), h 7 (by omega), ← hy] at hx
  exact UInt8.toNat.inj hx
theorem ip_bits (l m : List UInt8) (hl : l.length = 16) (hm : m.length = 16) (h : ∀ i, i < 128 → bitM l i = bitM m i) : l = m := by
  apply List.ext_getElem (by omega)
  intro j h1 h2
  refine byte_bits _ _ (fun k hk => ?_)
  have := h (8 * j + k) (by omega)
  unfold bitM at this
  rw [show (8 * j + k) / 8 = j by omega, show (8 * j + k) % 8 = k by omega, List.getD_eq_getElem?_getD, List.getElem?_eq_getElem h1, List.getD_eq_getElem?_getD, List.getElem?_eq_getElem h2] at this
  exact this
theorem AddrM.ext_bits (a b : AddrM) (ha : a.ok) (hb : b.ok) (h6 : a.six = b.six) (h : ∀ i, i < 128 → bitM a.ip i = bitM b.ip i) : a = b := by
  have hi := ip_bits _ _ ha hb h
  cases a; cases b
  simp_all
theorem firstM_eq (a b : AddrM) (ha : a.ok) (hb : b.ok) (k : Nat) : firstM a k = b ↔ a.six = b.six ∧ ∀ i, i < 128 → (if i < k then bitM a.ip i else 0) = bitM b.ip i := by
  constructor
  · rintro rfl
    exact ⟨(firstM_six a k).symm, fun i hi => (firstM_bit a ha k i hi).symm⟩
  · rintro ⟨h6, h⟩
    exact AddrM.ext_bits _ _ (firstM_ok a ha k) hb ((firstM_six a k).trans h6) (fun i hi => (firstM_bit a ha k i hi).trans (h i hi))
theorem cells_inj (a b : AddrM) (h : a.cells = b.cells) : a = b := by
  cases a; cases b
  simp only [AddrM.cells, List.cons.injEq] at h
  obtain ⟨h1, h2⟩ := h
  injection h1 with h1
  subst h1
  congr 1
  refine List.map_inj_right ?_ |>.1 h2
  intro x y hxy
  have : ((x.toNat : Nat) : Int) = (y.toNat : Int) := by simpa [u8v] using hxy
  exact UInt8.toNat.inj (by omega)
/-- the bytes of IPv4 behind the fourth are zero exactly if the bits behind the 32nd are -/
theorem sound_first (a : AddrM) (h : a.ok) : soundM a = decide (firstM a (widthM a) = a) := by
  rw [Bool.eq_iff_iff, decide_eq_true_iff, firstM_eq a a h h]
  cases h6 : a.six with
  | true =>
    rw [soundM, h6, widthM, h6]
    simp only [Bool.true_or, true_and, true_iff, if_true]
    intro i hi
    rw [if_pos hi]
  | false =>
    rw [soundM_four a h h6, widthM, h6]
    simp only [true_and]
    constructor
    · intro hz i hi
      by_cases hlt : i < 32
      · rw [if_pos (by simpa using hlt)]
      · rw [if_neg (by simpa using hlt)]
        have := hz (i / 8 - 4) (by omega)
        rw [show 4 + (i / 8 - 4) = i / 8 by omega] at this
        rw [bitM, this]
        simp
    · intro hz j hj
      refine byte_bits _ _ (fun k hk => ?_)
      have := hz (8 * (4 + j) + k) (by omega)
      rw [if_neg (by simp; omega)] at this
      unfold bitM at this
      rw [show (8 * (4 + j) + k) / 8 = 4 + j by omega, show (8 * (4 + j) + k) % 8 = k by omega] at this
      rw [← this]
      simp
theorem valid_first (a : AddrM) (h : a.ok) (bits : Int) : validM a bits = (decide (0 ≤ bits) && (decide (bits ≤ (widthM a : Int)) && decide (firstM a bits.toNat = a))) := by
  by_cases h0 : 0 ≤ bits
  · by_cases h1 : bits ≤ (widthM a : Int)
    · rw [decide_eq_true h0, decide_eq_true h1, Bool.true_and, Bool.true_and, Bool.eq_iff_iff, decide_eq_true_iff, firstM_eq a a h h]
      constructor
      · intro hv
        have hs : soundM a = true := by rw [validM] at hv; exact (Bool.and_eq_true _ _ ▸ hv).1
        rw [validM_iff a bits hs h0 h1] at hv
        refine ⟨rfl, fun i hi => ?_⟩
        by_cases hlt : i < bits.toNat
        · rw [if_pos hlt]
        · rw [if_neg hlt, hv i (by omega) hi]
      · rintro ⟨_, hv⟩
        have hs : soundM a = true := by
          rw [sound_first a h, decide_eq_true_iff, firstM_eq a a h h]
          refine ⟨rfl, fun i hi => ?_⟩
          by_cases hlt : i < widthM a
          · rw [if_pos hlt]
          · have := hv i hi
            rw [if_neg (by omega)] at this
            rw [if_neg hlt, this]
        rw [validM_iff a bits hs h0 h1]
        intro i hb hi
        have := hv i hi
        rw [if_neg (by omega)] at this
        exact this.symm
    · rw [decide_eq_true h0, decide_eq_false h1, validM, decide_eq_true h0, decide_eq_false h1]
      simp
  · rw [decide_eq_false h0, validM, decide_eq_false h0]
    simp
theorem contains_first (a x : AddrM) (h : a.ok) (hx : x.ok) (bits : Int) : containsM a bits x = (validM a bits && (soundM x && decide (firstM x bits.toNat = a))) := by
  by_cases hv : validM a bits = true
  · by_cases hs : soundM x = true
    · rw [hv, hs, Bool.true_and, Bool.true_and]
      have hv2 := hv
      rw [valid_first a h, Bool.and_eq_true, Bool.and_eq_true, decide_eq_true_iff, decide_eq_true_iff, decide_eq_true_iff, firstM_eq a a h h] at hv2
      obtain ⟨h0, h1, _, h2⟩ := hv2
      by_cases h6 : x.six = a.six
      · rw [Bool.eq_iff_iff, containsM_iff a x bits hv hs (by rw [h6]; simp), decide_eq_true_iff, firstM_eq x a hx h]
        constructor
        · intro hc
          refine ⟨h6, fun i hi => ?_⟩
          by_cases hlt : i < bits.toNat
          · rw [if_pos hlt, hc i (by omega) hi]
          · have := h2 i hi
            rw [if_neg hlt] at this
            rw [if_neg hlt, this]
        · rintro ⟨_, hc⟩ i hb hi
          have := hc i hi
          rw [if_pos (by omega)] at this
          exact this
      · rw [containsM, hv, hs, show (x.six == a.six) = false by simpa using h6]
        simp only [Bool.true_and, Bool.false_and]
        refine (decide_eq_false fun e => h6 ?_).symm
        rw [← e, firstM_six]
    · rw [Bool.not_eq_true] at hs
      rw [hs, containsM, hs]
      simp
  · rw [Bool.not_eq_true] at hv
    rw [hv, containsM, hv]
    simp
end Go.Proofs.Ytnblofbbbkjhpaa
namespace Go.Proofs.Ytnblofbbbkjhpaa
open Go.RowKit

theorem run_clear_blk {P : Program} (w : World) (t e ty : TypeId) (ht : P.underlying t = some (.slice e)) (hv : ∀ w, (zeroValue e).run P w = .ok (.int .u8 0) w) (g off n c : Nat) (bt : TypeId) (old : List Value) (hg : Blk w g bt old) (hfit : off + n ≤ old.length) :
    ∃ w', (Builtin.clear_ #[t] ty #[.slice (some ⟨g, off, none⟩) n c]).run P w = .ok (.tuple #[]) w' ∧ Blk w' g bt (old.take off ++ List.replicate n (.int .u8 0) ++ old.drop (off + n)) ∧ w.grownBy w' (some g) := by
  cases n with
  | zero =>
    refine ⟨w, ?_, ?_, ⟨rfl, rfl, rfl, Nat.le_refl _, fun _ _ _ => rfl⟩⟩
    · simp [Builtin.clear_, run_underlying ht]
    · simp only [List.replicate_zero, List.append_nil, Nat.add_zero, List.take_append_drop]; exact hg
  | succ m =>
    have hst := run_storeCells_at P g off bt (List.replicate (m + 1) (Value.int .u8 0)) 0 old.toArray w hg (by simpa using hfit) (by intro v hv; rw [List.eq_of_mem_replicate hv]; rfl)
    rw [Nat.add_zero] at hst
    refine ⟨w.setRow g (old.toArray.toList.take off ++ List.replicate (m + 1) (Value.int .u8 0) ++ old.toArray.toList.drop (off + (List.replicate (m + 1) (Value.int .u8 0)).length)).toArray, ?_, ?_, ⟨rfl, rfl, rfl, by simp, fun k _ hk => setRow_other w g k _ (fun e => hk (by simp [e]))⟩⟩
    · have hz : (Builtin.zeroCells (Value.int .u8 0).cells (m + 1)).toList = List.replicate (m + 1) (.int .u8 0) := by
        apply List.ext_getElem
        · simp [Builtin.zeroCells, Value.cells]
        · intro i h1 h2; simp [Builtin.zeroCells, Value.cells, Nat.mod_one]
      simp only [Builtin.clear_, List.getElem?_toArray, List.getElem?_cons_zero, Sem.run_bind, run_underlying ht, Result.andThen_ok, hv, hz]
      rw [hst]
      rfl
    · have := setRow_heap w g old.toArray (old.toArray.toList.take off ++ List.replicate (m + 1) (Value.int .u8 0) ++ old.toArray.toList.drop (off + (List.replicate (m + 1) (Value.int .u8 0)).length)).toArray bt _ hg
      unfold Blk
      simpa using this
theorem wpList_clear_blk {P : Program} (w : World) {ops : Array Oper} {rest : List Oper} {o : Oper} {a : Act} {Q : Exit → Act → World → Prop} (hgd : o.guard = none) (d : Operand) (t e : TypeId)
    (ho : o.op = .call { callee := .builtin .clear, args := #[d], argTypes := #[t] }) (ht : P.underlying t = some (.slice e)) (hv : ∀ w, (zeroValue e).run P w = .ok (.int .u8 0) w)
    (g off n c : Nat) (hd : a.eval d = .slice (some ⟨g, off, none⟩) n c) (bt : TypeId) (old : List Value) (hg : Blk w g bt old) (hfit : off + n ≤ old.length)
    (h : ∀ w', Blk w' g bt (old.take off ++ List.replicate n (.int .u8 0) ++ old.drop (off + n)) → w.grownBy w' (some g) → wpList P ops Q rest (a.put o.dst (.tuple #[])) w') : wpList P ops Q (o :: rest) a w := by
  refine wpList_plain hgd fun K hK => ?_
  obtain ⟨w', hrun, h2, h3⟩ := run_clear_blk (P := P) w t e o.type ht hv g off n c bt old hg hfit
  unfold Oper.wp execOp
  simp only [ho, resolve, invoke, builtin, Sem.run_bind, Sem.run_pure, Result.andThen_ok, List.map_toArray, List.map_cons, List.map_nil, hd, hrun]
  exact hK _ _ (h w' h2 h3)

set_option maxRecDepth 100000 in
theorem size_any (a : AddrM) (w : World) :
    Calls Try.prog 50 #[.agg a.cells.toArray] w fun e w' => e = .returned (.int .i64 (widthM a : Int)) ∧ Below w.heap.size w w' := by
  obtain ⟨ca, hca⟩ : ∃ c, a.cells.toArray = c := ⟨_, rfl⟩
  rw [hca]
  have HM := Lib.hid (show Mem w [blkE w.heap.size 26 a.cells] (w.alloc (.cells ca 26)) from (Mem.nil w).alloc rfl 26 ca a.cells hca.symm)
  obtain ⟨sx, hsx⟩ : ∃ q, a.six = q := ⟨_, rfl⟩
  have HW := Lib.hid (show widthM a = if sx then 128 else 32 by rw [widthM, hsx])
  clear hca
  go_enter Try.func50, Try.ntmps50
  go_upto_region 1 with fail
  generalize w.alloc (.cells ca 26) = w1 at HM ⊢
  have f6 := ((HM.out.blk 0 rfl).cell 0).trans (AddrM.six_cell a)
  rw [hsx] at f6
  cases sx with
  | true =>
    go_wp2
    go_ret
    exact ⟨by rw [HW.out]; rfl, HM.out.bel⟩
  | false =>
    go_wp2
    go_ret
    exact ⟨by rw [HW.out]; rfl, HM.out.bel⟩
theorem firstM_cells (a : AddrM) (h : a.ok) (q m : Nat) (hq : q < 16) (k : Nat) (hk : k / 8 = q) (hm : k % 8 = m) (y : UInt8) (hy : cutByte (a.ip.getD q 0) m = y) :
    (AddrM.mk a.six (a.ip.set q y)).cells.take (1 + (q + 1)) ++ List.replicate (16 - (q + 1)) (.int .u8 0) ++ (AddrM.mk a.six (a.ip.set q y)).cells.drop (1 + (q + 1) + (16 - (q + 1))) = (firstM a k).cells := by
  have hl : a.ip.length = 16 := h
  rw [firstM, hk, hm, if_pos hq, hy]
  simp only [AddrM.cells]
  rw [List.drop_of_length_le (by rw [List.length_cons, List.length_map, List.length_set]; omega), List.append_nil, Nat.add_comm, List.take_succ_cons, List.map_append, List.map_take, List.map_replicate, show 16 - (q + 1) = 15 - q by omega]
  rfl
set_option maxRecDepth 100000 in
theorem u8_zero (w : World) : (zeroValue 5).run Try.prog w = .ok (.int .u8 0) w := by
  obtain ⟨i0, hi, hz0, hz1, hz2⟩ := info_parts Try.info5
  simp [zeroValue, typeInfo, hi, hz0]
set_option maxRecDepth 100000 in
theorem array_from (g q : Nat) (hq : q < 16) (off : Nat) (hoff : (if 16 - (q + 1) = 0 then 1 else 1 + (q + 1)) = off) (w : World) :
    (Instr.sliceAt 24 (.pointer (some ⟨g, 1, none⟩)) (some (.int .i64 ((q : Int) + 1))) none none).run Try.prog w = .ok (.slice (some ⟨g, off, none⟩) (16 - (q + 1)) (16 - (q + 1))) w := by
  have hs : (sizeOf 5).run Try.prog w = .ok 1 w := by
    obtain ⟨i0, hi, hz0, hz1, hz2⟩ := info_parts Try.info5
    simp [sizeOf, typeInfo, hi, hz1]
  have hl : Try.prog.arrayLen 24 = 16 := by kernel_rfl
  have he : Try.prog.elem 24 = 5 := by kernel_rfl
  rw [run_sliceAt_array_l (P := Try.prog) w 24 ⟨g, 1, none⟩ (by rw [hl, he]; exact Try.underlying24) .i64 ((q : Int) + 1) (by omega) (by rw [hl]; omega), hl, he, hs]
  have e : ((q : Int) + 1).toNat = q + 1 := by omega
  simp only [Result.andThen, slicedAt, e, Go.WideShapes.add_plain, Nat.mul_one]
  by_cases h : 16 = q + 1
  · rw [if_pos h, ← hoff, if_pos (by omega)]
  · rw [if_neg h, ← hoff, if_neg (by omega)]
theorem cut_off (q off : Nat) (cs : List Value) (hoff : (if 16 - (q + 1) = 0 then 1 else 1 + (q + 1)) = off) :
    cs.take off ++ List.replicate (16 - (q + 1)) (Value.int .u8 0) ++ cs.drop (off + (16 - (q + 1))) = cs.take (1 + (q + 1)) ++ List.replicate (16 - (q + 1)) (Value.int .u8 0) ++ cs.drop (1 + (q + 1) + (16 - (q + 1))) := by
  by_cases h : 16 - (q + 1) = 0
  · rw [h]; simp
  · rw [if_neg h] at hoff; subst hoff; rfl
set_option maxRecDepth 100000 in
set_option maxHeartbeats 4000000 in
theorem first_any (a : AddrM) (h : a.ok) (k : Nat) (hk : k ≤ 128) (w : World) :
    Calls Try.prog 51 #[.agg a.cells.toArray, .int .i64 (k : Int)] w fun e w' => e = .returned (.agg (firstM a k).cells.toArray) ∧ Below w.heap.size w w' := by
  obtain ⟨ca, hca⟩ : ∃ x, a.cells.toArray = x := ⟨_, rfl⟩
  rw [hca]
  have HM := Lib.hid (show Mem w [blkE (w.heap.size + 1) 26 (.bool false :: (List.replicate 16 (0 : UInt8)).map u8v), blkE w.heap.size 26 a.cells] ((w.alloc (.cells ca 26)).alloc (.cells #[.bool false, .int .u8 0, .int .u8 0, .int .u8 0, .int .u8 0, .int .u8 0, .int .u8 0, .int .u8 0, .int .u8 0, .int .u8 0, .int .u8 0, .int .u8 0, .int .u8 0, .int .u8 0, .int .u8 0, .int .u8 0, .int .u8 0] 26)) from ((Mem.nil w).alloc rfl 26 ca a.cells hca.symm).alloc (by simp) 26 #[.bool false, .int .u8 0, .int .u8 0, .int .u8 0, .int .u8 0, .int .u8 0, .int .u8 0, .int .u8 0, .int .u8 0, .int .u8 0, .int .u8 0, .int .u8 0, .int .u8 0, .int .u8 0, .int .u8 0, .int .u8 0, .int .u8 0] _ rfl)
  have HO := Lib.hid h
  have HF := Lib.hid (firstM_ok a h k)
  obtain ⟨q, hq⟩ : ∃ q, k / 8 = q := ⟨_, rfl⟩
  obtain ⟨m, hm⟩ : ∃ q, k % 8 = q := ⟨_, rfl⟩
  have hqI : (k : Int) / 8 = (q : Int) := by omega
  have hmI : (k : Int) % 8 = (m : Int) := by omega
  go_enter Try.func51, Try.ntmps51
  go_upto_region 1 with fail
  generalize ((w.alloc (.cells ca 26)).alloc (.cells #[.bool false, .int .u8 0, .int .u8 0, .int .u8 0, .int .u8 0, .int .u8 0, .int .u8 0, .int .u8 0, .int .u8 0, .int .u8 0, .int .u8 0, .int .u8 0, .int .u8 0, .int .u8 0, .int .u8 0, .int .u8 0, .int .u8 0] 26)) = w1 at HM ⊢
  by_cases hlt : q < 16
  · have hm8 : m < 8 := by omega
    have fx := ((HM.out.blk 1 rfl).cell (1 + q)).trans (AddrM.ip_cell _ HO.out q hlt)
    have zx := (HM.out.blk 1 rfl).frozen (1 + q)
    have hset := AddrM.set_cell a q
    obtain ⟨x, hx⟩ : ∃ x, a.ip.getD q 0 = x := ⟨_, rfl⟩
    rw [hx] at fx
    have hcb := cut_bits x m hm8
    obtain ⟨y, hy⟩ : ∃ y, cutByte x m = y := ⟨_, rfl⟩
    rw [hy] at hcb
    have HC := Lib.hid (firstM_cells a h q m hlt k hq hm y (by rw [hx, hy]))
    have hmin : min m 8 = m := by omega
    have bq : (q : Int) < 16 := by omega
    have HN := Lib.hid (show Mem w [blkE (w.heap.size + 1) 26 (.bool false :: (List.replicate 16 (0 : UInt8)).map u8v), blkE w.heap.size 26 (AddrM.mk a.six (a.ip.set q y)).cells] ((w1.setCell ⟨w.heap.size, 1 + q, none⟩ (.int .u8 (y.toNat : Int))).drew) from by have h := HM.out.drew.setCell 1 rfl (1 + q) (u8v y); rw [hset] at h; exact h)
    have hset2 : (AddrM.mk a.six (a.ip.set q y)).ok := by show (a.ip.set q y).length = 16; rw [List.length_set]; exact HO.out
    clear hset hx hy HM hca h
    have hlI : decide ((q : Int) < 16) = true := by simp; omega
    go_upto_region 3 with fail
    go_region
    clear fx zx hcb hmin hlI
    generalize (w1.setCell ⟨w.heap.size, 1 + q, none⟩ (.int .u8 (y.toNat : Int))).drew = w2 at HN ⊢
    obtain ⟨off, hoff⟩ : ∃ off, (if 16 - (q + 1) = 0 then 1 else 1 + (q + 1)) = off := ⟨_, rfl⟩
    obtain ⟨z, hz⟩ : ∃ z, 16 - (q + 1) = z := ⟨_, rfl⟩
    have hcut := cut_off q off (AddrM.mk a.six (a.ip.set q y)).cells hoff
    have hfit : off + (16 - (q + 1)) ≤ (AddrM.mk a.six (a.ip.set q y)).cells.length := by rw [AddrM.cells_length (hset2 : (AddrM.mk a.six (a.ip.set q y)).ok), ← hoff]; split <;> omega
    rw [HC.out, hz] at hcut
    have HCUT := Lib.hid hcut
    rw [hz] at hfit
    have hsl : ∀ w', (Instr.sliceAt 24 (.pointer (some ⟨w.heap.size, 1, none⟩)) (some (.int .i64 ((q : Int) + 1))) none none).run Try.prog w' = .ok (.slice (some ⟨w.heap.size, off, none⟩) z z) w' := fun w' => by rw [← hz]; exact array_from w.heap.size q hlt off hoff w'
    clear hoff hz hcut
    go_upto_region 5 with (refine wpList_clear_blk w2 rfl (.tmp 23) 22 5 rfl Try.underlying22 u8_zero w.heap.size off z z rfl 26 (AddrM.mk a.six (a.ip.set q y)).cells (HN.out.blk 1 rfl) hfit ?_; intro w3 hb hg)
    rw [HCUT.out] at hb
    replace HM := Lib.hid (show Mem w [blkE (w.heap.size + 1) 26 (.bool false :: (List.replicate 16 (0 : UInt8)).map u8v), blkE w.heap.size 26 (firstM a k).cells] w3 from HN.out.put 1 rfl _ hg hb)
    clear HN hb hg hsl
    obtain ⟨cf, hcf⟩ : ∃ x, (firstM a k).cells.toArray = x := ⟨_, rfl⟩
    have HCF := Lib.hid hcf
    clear hcf
    go_wp2_with (first | (refine wpList_load_obj rfl 26 (.tmp 2) rfl w.heap.size 0 rfl (firstM a k).cells (HM.out.blk 1 rfl).all _ Try.underlying26 rfl (addr_cellsOf _ HF.out) ?_; rw [HCF.out]) | (refine wpList_store_blk rfl 26 (.tmp 4) (.tmp 24) rfl (w.heap.size + 1) (firstM a k).cells rfl (by show Value.agg cf = _; rw [HCF.out]) 26 (.bool false :: (List.replicate 16 (0 : UInt8)).map u8v) (HM.out.blk 0 rfl) (addr_cellsOf _ HF.out) (by rw [AddrM.cells_length HF.out]; rfl) (AddrM.one _) ?_; intro w9 hb9 hg9))
    exact bodyPost_ret (results_obj rfl _ _ (w.heap.size + 1) 26 (firstM a k).cells _ rfl hb9 Try.underlying26 rfl (addr_cellsOf _ HF.out)) rfl ⟨rfl, (HM.out.put 0 rfl _ hg9 hb9).bel⟩
  · have hlI : decide ((q : Int) < 16) = false := by simp; omega
    have hfa : firstM a k = a := by rw [firstM, if_neg (by omega)]
    rw [← hfa] at HM
    obtain ⟨cf, hcf⟩ : ∃ x, (firstM a k).cells.toArray = x := ⟨_, rfl⟩
    have HCF := Lib.hid hcf
    clear hcf
    go_upto_region 5 with fail
    go_wp2_with (first | (refine wpList_load_obj rfl 26 (.tmp 2) rfl w.heap.size 0 rfl (firstM a k).cells (HM.out.blk 1 rfl).all _ Try.underlying26 rfl (addr_cellsOf _ HF.out) ?_; rw [HCF.out]) | (refine wpList_store_blk rfl 26 (.tmp 4) (.tmp 24) rfl (w.heap.size + 1) (firstM a k).cells rfl (by show Value.agg cf = _; rw [HCF.out]) 26 (.bool false :: (List.replicate 16 (0 : UInt8)).map u8v) (HM.out.blk 0 rfl) (addr_cellsOf _ HF.out) (by rw [AddrM.cells_length HF.out]; rfl) (AddrM.one _) ?_; intro w9 hb9 hg9))
    exact bodyPost_ret (results_obj rfl _ _ (w.heap.size + 1) 26 (firstM a k).cells _ rfl hb9 Try.underlying26 rfl (addr_cellsOf _ HF.out)) rfl ⟨rfl, (HM.out.put 0 rfl _ hg9 hb9).bel⟩
end Go.Proofs.Ytnblofbbbkjhpaa
