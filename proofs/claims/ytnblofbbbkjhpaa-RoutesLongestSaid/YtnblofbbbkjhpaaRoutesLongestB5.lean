/-
  The contract of the laws' made: valid routes to the peers 1 to 3. The contract of an address that the statements are made of: Host. The example of the chapter on routes: begun of the laws. The contract of the reference's Lookup. The mathematics of RoutesLongest: the longest prefix that contains an address, and what Lookup gives. No function of the program is named here. The walk of RoutesLongest over what is asked of the program. Words for lists of objects of one size that a slice holds: the first one for which a predicate holds, a place that is written, a predicate that is handed on. No function of the program is named here. The elements of type burrow/api.Route: size, zero value, pieces of their slices. The contract of slices.Grow of the nil slice of structs. The contract of slices.Concat of slices of structs. The predicates that the program's routes hand on. A route between two pieces of a list of routes: what Concat gives. The contracts of inner's size and first: how many bits an address has, and an address without the bits behind the first ones. No statement is proved here.
-/
import Derived.RegionTactic
import Derived.Deep.DeepCutAuto
import Derived.Lib.AppendZerosOnto
import Derived.Test.YtnblofbbbkjhpaaRoutesLongestB4
namespace Go.Proofs.Ytnblofbbbkjhpaa
open Go.RowKit

theorem RdRow.kept {W W' : World} {B k n g : Nat} {A : Option Addr} {os : List (List Value)} (h : RdRow W B A k n os) (hB : B ≤ W.heap.size) (hg : W.grownBy W' (some g)) (hne : ∀ ad, A = some ad → g < ad.block) : RdRow W' B A k n os :=
  ⟨h.1, h.2.1, fun hn => by
    obtain ⟨b, off, e, hlt, hc⟩ := h.2.2 hn
    exact ⟨b, off, e, hlt, fun j v hv => (World.cell?_of_block (hg.block b (by omega) (fun e2 => by injection e2 with e2; have := hne _ e; simp only at this; omega))).trans (hc j v hv)⟩⟩
theorem RtRd.kept {W W' : World} {n g : Nat} {A : Option Addr} {l : List RouteM} (h : RtRd W W.heap.size A n l) (hg : W.grownBy W' (some g)) (hne : ∀ ad, A = some ad → g < ad.block) : RtRd W' W'.heap.size A n l := ⟨(h.1.kept (Nat.le_refl _) hg hne).mono hg.size, h.2⟩
theorem PfRd.kept {W W' : World} {n g : Nat} {A : Option Addr} {l : List (AddrM × Int)} (h : PfRd W W.heap.size A n l) (hg : W.grownBy W' (some g)) (hne : ∀ ad, A = some ad → g < ad.block) : PfRd W' W'.heap.size A n l := ⟨(h.1.kept (Nat.le_refl _) hg hne).mono hg.size, h.2⟩
theorem At.kept {W W' : World} {b off g : Nat} {cs : List Value} (h : At W b off cs) (hb : b < W.heap.size) (hg : W.grownBy W' (some g)) (hne : g < b) : At W' b off cs := fun j v hv => (World.cell?_of_block (hg.block b hb (fun e2 => by injection e2 with e2; omega))).trans (h j v hv)
/-- a key of one byte -/
def keyB (y : UInt8) : List UInt8 := y :: List.replicate 31 0
theorem key_byte (y : UInt8) : Try.prog.built 30 [(0, .int .u8 (y.toNat : Int))] = some ((keyB y).map u8v).toArray := by kernel_rfl
/-- routes inserted one after the other -/
def insAll (xs : List ((AddrM × Int) × UInt8)) : List RouteM := xs.foldl (fun l x => (insM l x.1.1 x.1.2 (keyB x.2)).1) []
theorem insAll_snoc (xs : List ((AddrM × Int) × UInt8)) (x : (AddrM × Int) × UInt8) : insAll (xs ++ [x]) = (insM (insAll xs) x.1.1 x.1.2 (keyB x.2)).1 := by simp [insAll]
theorem insM_len (l : List RouteM) (a : AddrM) (b : Int) (k : List UInt8) : (insM l a b k).1.length ≤ l.length + 1 := by
  unfold insM
  split
  · simp
  · split
    · simp
    · split
      · simp
      · simp only [List.length_append, List.length_cons, List.length_take, List.length_drop]
        omega
/-- what is made of choices: the prefixes are different choices, at most ten -/
def MadeOf (l : List UInt8) (xs : List ((AddrM × Int) × UInt8)) : Prop := xs.length ≤ 10 ∧ (xs.map (·.1)).Nodup ∧ ∀ x ∈ xs, ∃ i, x.1 = (codeM l i, (codePb l i : Int))
set_option maxRecDepth 100000 in
set_option maxHeartbeats 16000000 in
theorem made_any (A : Option Addr) (n c : Nat) (l : List UInt8) (hnc : n ≤ c) (hcm : c ≤ maxLen) (w : World) (hr : Rd w w.heap.size A n l) :
    Calls Try.prog 9 #[.slice A n c] w fun e w' => ∃ xs A' c', MadeOf (l.take (min n 160)) xs ∧ e = .returned (.slice A' (insAll xs).length c') ∧ RtRd w' w'.heap.size A' (insAll xs).length (insAll xs) ∧ ((insAll xs).length ≤ c' ∧ c' ≤ maxLen) ∧ Below w.heap.size w w' := by
  obtain ⟨k0, hk⟩ : ∃ k, min n 160 = k := ⟨_, rfl⟩
  rw [hk]
  have HR := Lib.hid (hr.take (show k0 ≤ n by omega))
  have HW1 := Lib.hid (caseNew_any A n c 160 k0 (by omega) hnc hcm hk w)
  have hk60 : k0 ≤ 160 := by omega
  generalize l.take k0 = lk at HR ⊢
  clear hr hk hnc hcm
  go_enter Try.func9, Try.ntmps9
  go_wp2_with fail
  refine HW1.out.mono ?_
  rintro e w1 ⟨rfl, hm⟩
  have hc : CodesAt w1 w.heap.size A k0 c lk w.heap.size 0 := ⟨hm.blk 0 rfl, HR.out.below hm.bel, Nat.le_refl _, (hm.blk 0 rfl).lt, by omega, Nat.zero_le _⟩
  have hps := casePrefixes_any w.heap.size A k0 c lk w.heap.size 0 10 (by omega) w1 hc
  rw [show ((10 : Nat) : Int) = 10 from rfl] at hps
  obtain ⟨G, hG⟩ : ∃ G, w.heap.size = G := ⟨_, rfl⟩
  rw [hG] at hps
  have HPS := Lib.hid hps
  clear hps
  have HB1 := Lib.hid hm.bel
  have HG := Lib.hid (show w.heap.size < w1.heap.size from hc.lt)
  clear hc hm HW1
  go_wp2_with fail
  refine HPS.out.mono ?_
  rintro e w2 ⟨ps, Ap, cp, q0, rfl, hps, hplo, hcd, hg, hle, hnd, hall⟩
  clear HPS
  have HX2 := Lib.hid (show CodesAt w2 G A k0 c lk G q0 ∧ PfRd w2 w2.heap.size Ap ps.length ps ∧ Below w.heap.size w w2 from by
    exact ⟨hcd, hps, HB1.out.grown hg HB1.out.size (fun b hb => by injection hb with hb; omega)⟩)
  have HPL := Lib.hid (show ∀ ad, Ap = some ad → G < ad.block from fun ad h => by have := hplo ad h; have := HG.out; omega)
  have HND := Lib.hid (And.intro hnd hall)
  clear hps hcd hg hnd hall HB1 hplo
  obtain ⟨np, hnp⟩ : ∃ z, ps.length = z := ⟨_, rfl⟩
  rw [hnp] at HX2 hle ⊢
  have HNP := Lib.hid hnp
  clear hnp
  have HGE := Lib.hid (show w.heap.size = G from hG)
  clear hG
  go_wp2_with fail
  go_loopw [12, 4] (fun i vo wr => ∃ (j : Nat) (xs : List ((AddrM × Int) × UInt8)) (q : Nat) (A9 : Option Addr) (c9 : Nat), j ≤ np ∧ i = .int .i64 (j : Int) ∧ xs.map (·.1) = ps.take j ∧ vo = .slice A9 (insAll xs).length c9 ∧ (insAll xs).length ≤ j ∧ RtRd wr wr.heap.size A9 (insAll xs).length (insAll xs) ∧ (∀ ad, A9 = some ad → G < ad.block) ∧ ((insAll xs).length ≤ c9 ∧ c9 ≤ maxLen) ∧ CodesAt wr G A k0 c lk G q ∧ PfRd wr wr.heap.size Ap np ps ∧ Below w.heap.size w wr) (fun i _ _ => np - (intOf i).toNat)
  case atStart => exact ⟨0, [], q0, none, 0, by omega, rfl, rfl, rfl, by simp [insAll], RtRd.nil, (fun _ h => by cases h), ⟨Nat.le_refl _, by unfold maxLen; omega⟩, HX2.out.1, HX2.out.2.1, HX2.out.2.2⟩
  case round =>
    clear HX2
    obtain ⟨j, xs, q, A9, c9, hj, rfl, hxs, rfl, hln, hrt, hlo, hcp, hcd, hpf, hbl⟩ := hrel
    obtain ⟨rs, hrs⟩ : ∃ z, insAll xs = z := ⟨_, rfl⟩
    rw [hrs] at hrt hln hcp ⊢
    have HCP := Lib.hid hcp
    clear hcp
    have HRS := Lib.hid hrs
    have HXS := Lib.hid hxs
    have HLO := Lib.hid hlo
    clear hlo
    have HO := Lib.hid (And.intro hrt (And.intro hcd (And.intro hpf hbl)))
    clear hrs hrt hcd hpf hbl hxs
    by_cases hjn : j < np
    · have d1 : decide ((j : Int) < (np : Int)) = true := by simp; omega
      obtain ⟨b, off, rfl⟩ := HO.out.2.2.1.1.addr (by omega)
      obtain ⟨x, hx⟩ : ∃ x, ps[j]? = some x := ⟨ps[j]'(by rw [HNP.out]; exact hjn), List.getElem?_eq_getElem _⟩
      have HOK := Lib.hid (HO.out.2.2.1.ok hx)
      have HLA := Lib.hid (HO.out.2.2.1.at j x hx).2
      have HJX := Lib.hid hx
      clear hx
      obtain ⟨xp, hxp⟩ : ∃ z, (prefC x.1 x.2).toArray = z := ⟨_, rfl⟩
      have HXP := Lib.hid hxp
      have HZ := Lib.hid (Blk.new wr 28 (prefC addr0 0))
      go_upto_region 6 with (first | (refine wpList_load_obj rfl 28 (.tmp 14) rfl b _ rfl (prefC x.1 x.2) HLA.out _ Try.underlying28 rfl (pref_cellsOf' x.1 HOK.out.1 x.2) ?_; rw [HXP.out]) | (refine wpList_store_obj rfl 28 (.tmp 6) (.tmp 15) rfl wr.heap.size 0 (prefC x.1 x.2) rfl (by show Value.agg xp = _; rw [HXP.out]) 28 (prefC addr0 0) HZ.out (pref_cellsOf' x.1 HOK.out.1 x.2) (by rw [prefC_length x.1 HOK.out.1]; decide) (pref_oneR _ _) ?_; intro w5 hb5 hg5))
      rw [setL_all _ _ (by rw [prefC_length x.1 HOK.out.1]; rfl)] at hb5
      have hbf := below_fresh hg5
      have hsz := HO.out.2.2.2.size
      obtain ⟨Y, hY⟩ : ∃ y, UInt8.ofNat (1 + nextV lk q 3) = y := ⟨_, rfl⟩
      have hn3 := nextV_lt lk q 3 (by omega)
      have hYn : Y.toNat = 1 + nextV lk q 3 := by rw [← hY, UInt8.toNat_ofNat', Nat.mod_eq_of_lt (by omega)]
      have y1 : IntKind.u8.wrap (1 + (nextV lk q 3 : Int)) = (Y.toNat : Int) := by rw [IntKind.wrap_u8, hYn]; omega
      have y2 : (1 + (nextV lk q 3 : Int)) % 256 = (Y.toNat : Int) := by rw [hYn]; omega
      have y3 : IntKind.i64.wrap (1 + (nextV lk q 3 : Int)) = 1 + (nextV lk q 3 : Int) := IntWalk.i64_in _ (by omega)
      obtain ⟨ky, hky⟩ : ∃ z, ((keyB Y).map u8v).toArray = z := ⟨_, rfl⟩
      have HKY := Lib.hid hky
      have hin := fun (A : Option Addr) (c : Nat) (W : World) (h : RtRd W W.heap.size A rs.length rs) => refInsert_any A rs.length c rs (by omega) x.1 x.2 HOK.out.1 HOK.out.2 (keyB Y) rfl W h
      rw [hxp, hky] at hin
      have HIN := Lib.hid hin
      clear hxp hky hin hY hn3 hYn d1
      have hdw : Below wr.heap.size wr w5.drew := hbf.drew
      have hc5 := HO.out.2.1.below hdw
      have hnx := hc5.callNext 3 (by omega)
      rw [show ((3 : Nat) : Int) = 3 from rfl] at hnx
      have HNX := Lib.hid hnx
      have HD := Lib.hid (show RtRd w5.drew w5.drew.heap.size A9 rs.length rs ∧ PfRd w5.drew w5.drew.heap.size (some ⟨b, off, none⟩) np ps ∧ Below w.heap.size w w5.drew from ⟨(HO.out.1.below hdw).mono hdw.size, (HO.out.2.2.1.below hdw).mono hdw.size, HO.out.2.2.2.trans (hdw.mono hsz)⟩)
      have HPD := Lib.hid (show At w5.drew wr.heap.size 0 (prefC x.1 x.2) from hb5.all.mono (Below.refl w5.heap.size w5).drew hb5.lt)
      have HP1 := Lib.hid (show wr.heap.size < w5.drew.heap.size ∧ G < wr.heap.size from ⟨hb5.lt, HO.out.2.1.lt⟩)
      clear hb5 hg5 HZ hbf hsz hdw hc5 hnx HLA HO
      generalize wr.heap.size = P1 at HPD HP1 ⊢
      refine wp_region_held_drew (S := fun W' => At W' P1 0 (prefC x.1 x.2)) (by kernel_rfl) (HPD.out) (fun hHeld => ?_)
      refine take_first (v := ?_) 0 rfl (by kernel_rfl) (by kernel_rfl) (by kernel_rfl) (fun _ _ _ h => h) (Or.inl ⟨by rfl, ?_⟩) (by assumption) ?_
      rotate_left
      · (intro w hSw; (try dsimp only at hSw); go_simp; try with_reducible rfl)
      (try simp only [Act.put, List.setIfInBounds_toArray, List.set_cons_zero, List.set_cons_succ])
      refine take_first (v := .agg xp) 1 rfl (by kernel_rfl) (by kernel_rfl) (by kernel_rfl) (fun _ _ _ h => h) (by rw [← HXP.out]; exact yields_load_obj (by rfl) 28 (.tmp 6) rfl P1 0 rfl (prefC x.1 x.2) (fun W hW => hW) _ Try.underlying28 rfl (pref_cellsOf' x.1 HOK.out.1 x.2)) (by assumption) ?_
      (try simp only [Act.put, List.setIfInBounds_toArray, List.set_cons_zero, List.set_cons_succ])
      refine take_first (v := ?_) 2 rfl (by kernel_rfl) (by kernel_rfl) (by kernel_rfl) (fun _ _ _ h => h) (Or.inl ⟨by rfl, ?_⟩) (by assumption) ?_
      rotate_left
      · (intro w hSw; (try dsimp only at hSw); go_simp; try with_reducible rfl)
      (try simp only [Act.put, List.setIfInBounds_toArray, List.set_cons_zero, List.set_cons_succ])
      clear hHeld
      refine step_one 3 rfl (by kernel_rfl) (fun K hK => ?_)
      go_simp
      refine HNX.out.mono ?_
      rintro e w6 ⟨rfl, hcd, hg⟩
      have HD6 := Lib.hid (show CodesAt w6 G A k0 c lk G (nextP lk q 3) ∧ RtRd w6 w6.heap.size A9 rs.length rs ∧ PfRd w6 w6.heap.size (some ⟨b, off, none⟩) np ps ∧ At w6 P1 0 (prefC x.1 x.2) ∧ Below w.heap.size w w6 from ⟨hcd, HD.out.1.kept hg HLO.out, HD.out.2.1.kept hg HPL.out, HPD.out.kept HP1.out.1 hg HP1.out.2, HD.out.2.2.grown hg HD.out.2.2.size (fun b hb => by injection hb with hb; have := HGE.out; omega)⟩)
      have HP6 := Lib.hid (Nat.lt_of_lt_of_le HP1.out.1 hg.size)
      clear hcd hg
      go_wp2_with fail
      refine hK.out _ _ HD6.out.2.2.2.1 (fun hHeld => ?_)
      clear hK K
      (try simp only [Act.put, List.setIfInBounds_toArray, List.set_cons_zero, List.set_cons_succ])
      refine take_first (v := ?_) 4 rfl (by kernel_rfl) (by kernel_rfl) (by kernel_rfl) (fun _ _ _ h => h) (Or.inl ⟨by rfl, ?_⟩) (by assumption) ?_
      rotate_left
      · (intro w hSw; (try dsimp only at hSw); go_simp; try with_reducible rfl)
      (try simp only [Act.put, List.setIfInBounds_toArray, List.set_cons_zero, List.set_cons_succ])
      refine take_first (v := ?_) 5 rfl (by kernel_rfl) (by kernel_rfl) (by kernel_rfl) (fun _ _ _ h => h) (Or.inl ⟨by rfl, ?_⟩) (by assumption) ?_
      rotate_left
      · (intro w hSw; (try dsimp only at hSw); go_simp; try with_reducible rfl)
      (try simp only [Act.put, List.setIfInBounds_toArray, List.set_cons_zero, List.set_cons_succ])
      refine take_first (v := .agg ky) 6 rfl (by kernel_rfl) (by kernel_rfl) (by kernel_rfl) (fun _ _ _ h => h) (yields_build_obj (by rfl) 30 [(0, .tmp 22)] rfl ky (by rw [← HKY.out]; exact key_byte Y)) (by assumption) ?_
      (try simp only [Act.put, List.setIfInBounds_toArray, List.set_cons_zero, List.set_cons_succ])
      clear hHeld
      refine step_one 7 rfl (by kernel_rfl) (fun K hK => ?_)
      go_simp
      refine (HIN.out A9 c9 w6 HD6.out.2.1).mono ?_
      rintro e w7 ⟨A7, c7, rfl, hrd, hlo7, hcp7, hb⟩
      have HD7 := Lib.hid (show CodesAt w7 G A k0 c lk G (nextP lk q 3) ∧ PfRd w7 w7.heap.size (some ⟨b, off, none⟩) np ps ∧ Below w.heap.size w w7 from ⟨HD6.out.1.below hb, (HD6.out.2.2.1.below hb).mono hb.size, HD6.out.2.2.2.2.trans (hb.mono HD6.out.2.2.2.2.size)⟩)
      have HRD := Lib.hid hrd
      have HL7 := Lib.hid (show ∀ ad, A7 = some ad → G < ad.block from fun ad h => by have h1 := hlo7 ad h; have h2 := HP6.out; have h3 := HP1.out.2; omega)
      have hat7 : At w7 P1 0 (prefC x.1 x.2) := HD6.out.2.2.2.1.mono hb HP6.out
      have HC7 := Lib.hid hcp7
      clear hrd hb hlo7 hcp7
      go_wp2_with fail
      refine hK.out _ _ hat7 (fun hHeld => ?_)
      clear hK K
      (try simp only [Act.put, List.setIfInBounds_toArray, List.set_cons_zero, List.set_cons_succ])
      refine take_first (v := ?_) 8 rfl (by kernel_rfl) (by kernel_rfl) (by kernel_rfl) (fun _ _ _ h => h) (Or.inl ⟨by rfl, ?_⟩) (by assumption) ?_
      rotate_left
      · (intro w hSw; (try dsimp only at hSw); go_simp; try with_reducible rfl)
      (try simp only [Act.put, List.setIfInBounds_toArray, List.set_cons_zero, List.set_cons_succ])
      refine take_first (v := ?_) 9 rfl (by kernel_rfl) (by kernel_rfl) (by kernel_rfl) (fun _ _ _ h => h) (Or.inl ⟨by rfl, ?_⟩) (by assumption) ?_
      rotate_left
      · (intro w hSw; (try dsimp only at hSw); go_simp; try with_reducible rfl)
      (try simp only [Act.put, List.setIfInBounds_toArray, List.set_cons_zero, List.set_cons_succ])
      refine take_first (v := ?_) 10 rfl (by kernel_rfl) (by kernel_rfl) (by kernel_rfl) (fun _ _ _ h => h) (Or.inl ⟨by rfl, ?_⟩) (by assumption) ?_
      rotate_left
      · (intro w hSw; (try dsimp only at hSw); go_simp; try with_reducible rfl)
      (try simp only [Act.put, List.setIfInBounds_toArray, List.set_cons_zero, List.set_cons_succ])
      refine take_first (v := ?_) 11 rfl (by kernel_rfl) (by kernel_rfl) (by kernel_rfl) (fun _ _ _ h => h) (Or.inl ⟨by rfl, ?_⟩) (by assumption) ?_
      rotate_left
      · (intro w hSw; (try dsimp only at hSw); go_simp; try with_reducible rfl)
      (try simp only [Act.put, List.setIfInBounds_toArray, List.set_cons_zero, List.set_cons_succ])
      refine wpAnyH_done (by kernel_rfl) ?_ _
      clear hHeld
      have HF := Lib.hid (And.intro HRD.out (And.intro HL7.out (And.intro HC7.out HD7.out)))
      clear HRD HL7 HC7 HD7 HD6 HP6
      go_wp2_with fail
      go_roundw
      case rel => exact ⟨j + 1, xs ++ [(x, Y)], _, A7, c7, by omega, by go_num, by rw [List.map_append, HXS.out, take_snoc HJX.out]; rfl, by rw [insAll_snoc, HRS.out], by rw [insAll_snoc, HRS.out]; exact Nat.le_trans (insM_len _ _ _ _) (by omega), by rw [insAll_snoc, HRS.out]; exact HF.out.1, HF.out.2.1, by rw [insAll_snoc, HRS.out]; exact HF.out.2.2.1, HF.out.2.2.2.1, HF.out.2.2.2.2.1, HF.out.2.2.2.2.2⟩
      case measure => simp [intOf]; omega
    · obtain rfl : np = j := by omega
      have d1 : decide ((np : Int) < (np : Int)) = false := by simp
      have htk : ps.take np = ps := List.take_of_length_le (by rw [HNP.out]; exact Nat.le_refl _)
      have hmo : MadeOf lk xs := by
        have h1 := HXS.out
        rw [htk] at h1
        refine ⟨?_, by rw [h1]; exact HND.out.1, fun y hy => HND.out.2 y.1 (by rw [← h1]; exact List.mem_map_of_mem hy)⟩
        have h2 := congrArg List.length h1
        rw [List.length_map, HNP.out] at h2
        omega
      have HMO := Lib.hid hmo
      have HF := Lib.hid (And.intro HO.out.1 HO.out.2.2.2)
      clear hmo HO htk
      go_wp2_with fail
      go_ret
      exact ⟨xs, A9, c9, HMO.out, by rw [HRS.out]; rfl, by rw [HRS.out]; exact HF.out.1, by rw [HRS.out]; exact HCP.out, HF.out.2⟩
end Go.Proofs.Ytnblofbbbkjhpaa
namespace Go.Proofs.Ytnblofbbbkjhpaa
open Go.RowKit

def hostB (u v : UInt8) : List UInt8 := [10, u, 0, v, 0, 0, 0, 0, 0, 0, 0, 0, 0, 0, 0, 0]
/-- the address 10.x.0.y -/
def hostM (x y : Nat) : AddrM := ⟨false, hostB (UInt8.ofNat x) (UInt8.ofNat y)⟩
theorem hostM_ok (x y : Nat) : (hostM x y).ok := rfl
theorem ip_built (u v : UInt8) : Try.prog.built 24 [(0, .int .u8 10), (1, .int .u8 (u.toNat : Int)), (2, .int .u8 0), (3, .int .u8 (v.toNat : Int))] = some ((hostB u v).map u8v).toArray := by kernel_rfl
theorem addr_built (l : List UInt8) (h : l.length = 16) : Try.prog.built 26 [(1, .agg (l.map u8v).toArray)] = some (AddrM.mk false l).cells.toArray := by
  rw [built_of 26 [1, 16] [[.bool false], (List.replicate 16 (0 : UInt8)).map u8v] rfl #[(0, 1), (1, 16)] (fun parts => by kernel_rfl) (fun i h => by
    match i, h with
    | 0, _ => rfl
    | 1, _ => rfl) _ (fun p hp => by
    simp only [List.mem_cons, List.not_mem_nil, or_false] at hp
    subst hp
    simp [Value.cells, h])]
  simp [AddrM.cells, Value.cells]
set_option maxRecDepth 100000 in
set_option maxHeartbeats 2000000 in
theorem caseHost_any (x y : Nat) (w : World) :
    Calls Try.prog 31 #[.int .i64 (x : Int), .int .i64 (y : Int)] w fun e w' => e = .returned (.agg (hostM x y).cells.toArray) ∧ Below w.heap.size w w' := by
  rw [hostM]
  have hw1 := codeByte_wrap x
  have hw2 := codeByte_wrap y
  generalize UInt8.ofNat x = u at hw1 ⊢
  generalize UInt8.ofNat y = v at hw2 ⊢
  have hb1 := ip_built u v
  have hb2 := addr_built (hostB u v) rfl
  have hok : (AddrM.mk false (hostB u v)).ok := rfl
  generalize hl : hostB u v = l at hb1 hb2 hok ⊢
  clear hl
  obtain ⟨ci, hci⟩ : ∃ c, (l.map u8v).toArray = c := ⟨_, rfl⟩
  obtain ⟨ca, hca⟩ : ∃ c, (AddrM.mk false l).cells.toArray = c := ⟨_, rfl⟩
  rw [hci] at hb1 hb2
  rw [hca] at hb2 ⊢
  have HB := Lib.hid (And.intro hb1 (And.intro hb2 hca))
  have HO := Lib.hid hok
  have HAL := Lib.hid (AddrM.cells_length HO.out)
  have HCO := Lib.hid (addr_cellsOf _ HO.out)
  clear hb1 hb2 hci hca hok
  have HM := Lib.hid (show Mem w [blkE w.heap.size 26 addr0.cells] (w.alloc (.cells #[.bool false, .int .u8 0, .int .u8 0, .int .u8 0, .int .u8 0, .int .u8 0, .int .u8 0, .int .u8 0, .int .u8 0, .int .u8 0, .int .u8 0, .int .u8 0, .int .u8 0, .int .u8 0, .int .u8 0, .int .u8 0, .int .u8 0] 26)) from (Mem.nil w).alloc rfl 26 #[.bool false, .int .u8 0, .int .u8 0, .int .u8 0, .int .u8 0, .int .u8 0, .int .u8 0, .int .u8 0, .int .u8 0, .int .u8 0, .int .u8 0, .int .u8 0, .int .u8 0, .int .u8 0, .int .u8 0, .int .u8 0, .int .u8 0] addr0.cells rfl)
  go_enter Try.func31, Try.ntmps31
  go_upto_region 1 with fail
  generalize w.alloc (.cells #[.bool false, .int .u8 0, .int .u8 0, .int .u8 0, .int .u8 0, .int .u8 0, .int .u8 0, .int .u8 0, .int .u8 0, .int .u8 0, .int .u8 0, .int .u8 0, .int .u8 0, .int .u8 0, .int .u8 0, .int .u8 0, .int .u8 0] 26) = w1 at HM ⊢
  go_wp2_with (first | (refine wpList_build_as rfl 24 [(0, .const (.int .u8 10)), (1, .tmp 6), (2, .const (.int .u8 0)), (3, .tmp 8)] rfl ci ?_ ?_; exact HB.out.1) | (refine wpList_build_as rfl 26 [(1, .tmp 9)] rfl ca ?_ ?_; exact HB.out.2.1) | (refine wpList_store_blk rfl 26 (.tmp 4) (.tmp 10) rfl w.heap.size (AddrM.mk false l).cells rfl (by show Value.agg ca = _; rw [HB.out.2.2]) 26 addr0.cells (HM.out.blk 0 rfl) HCO.out (by rw [HAL.out]; rfl) (AddrM.one _) ?_; intro w9 hb9 hg9))
  exact bodyPost_ret (results_obj rfl _ _ w.heap.size 26 (AddrM.mk false l).cells _ rfl hb9 Try.underlying26 rfl HCO.out) rfl ⟨by rw [HB.out.2.2], (HM.out.put 0 rfl _ hg9 hb9).bel⟩
end Go.Proofs.Ytnblofbbbkjhpaa
namespace Go.Proofs.Ytnblofbbbkjhpaa
open Go.RowKit

theorem wpList_build_as_g {P : Program} {ops : Array Oper} {rest : List Oper} {o : Oper} {a : Act} {w : World} {Q : Exit → Act → World → Prop} (hw : Region.wanted o (yielded ops a.tmps) = true) (t : TypeId) (parts : List (Nat × Operand)) (ho : o.op = .build t parts.toArray) (v : Array Value)
    (hb : P.built t (parts.map fun p => (p.1, a.eval p.2)) = some v) (h : wpList P ops Q rest (a.put o.dst (.agg v)) w) : wpList P ops Q (o :: rest) a w :=
  wpList_step fun K hK => by
    rw [if_pos hw]
    have e : (parts.toArray.map fun (i, x) => (i, a.eval x)).toList = parts.map fun p => (p.1, a.eval p.2) := by simp
    exact wp_build t parts.toArray ho (by rw [e, hb]; rfl) (by rw [e, hb]; exact hK _ _ h)
/-- routes, as an entry of what lies in memory -/
def rtL (A : Option Addr) (n : Nat) (l : List RouteM) : Low := ⟨fun W => RtRd W W.heap.size A n l, fun _ _ hb h => (h.below hb).mono hb.size⟩
def bl1 : List RouteM := (insM [] (maskM (hostM 0 0) 8) 8 (keyB 1)).1
def bl2 : List RouteM := (insM bl1 (maskM (hostM 1 0) 16) 16 (keyB 2)).1
def x11 : AddrM := ⟨false, 11 :: List.replicate 15 0⟩
theorem bl1_len : bl1.length = 1 := by decide +kernel
theorem bl2_len : bl2.length = 2 := by decide +kernel
theorem bl1_err : (insM [] (maskM (hostM 0 0) 8) 8 (keyB 1)).2 = 0 := by decide +kernel
theorem bl2_err : (insM bl1 (maskM (hostM 1 0) 16) 16 (keyB 2)).2 = 0 := by decide +kernel
theorem bl_one : lookM bl2 (hostM 1 3) = (keyB 2, true) := by decide +kernel
theorem bl_two : lookM bl2 (hostM 2 3) = (keyB 1, true) := by decide +kernel
theorem bl_none : lookM bl2 x11 = (List.replicate 32 0, false) := by decide +kernel
set_option maxRecDepth 100000 in
set_option maxHeartbeats 8000000 in
theorem rt_begun_any (HINS : RtInsC 12) (HLK : RtLookC 26) (w : World) : Calls Try.prog 24 #[] w fun e w' => e = .returned (.bool true) ∧ Below w.heap.size w w' := by
  obtain ⟨a00, ha00⟩ : ∃ z, (hostM 0 0).cells.toArray = z := ⟨_, rfl⟩
  obtain ⟨a10, ha10⟩ : ∃ z, (hostM 1 0).cells.toArray = z := ⟨_, rfl⟩
  obtain ⟨a13, ha13⟩ : ∃ z, (hostM 1 3).cells.toArray = z := ⟨_, rfl⟩
  obtain ⟨a23, ha23⟩ : ∃ z, (hostM 2 3).cells.toArray = z := ⟨_, rfl⟩
  obtain ⟨p8, hp8⟩ : ∃ z, (prefC (maskM (hostM 0 0) 8) (8 : Int)).toArray = z := ⟨_, rfl⟩
  obtain ⟨p16, hp16⟩ : ∃ z, (prefC (maskM (hostM 1 0) 16) (16 : Int)).toArray = z := ⟨_, rfl⟩
  obtain ⟨k1, hk1⟩ : ∃ z, ((keyB 1).map u8v).toArray = z := ⟨_, rfl⟩
  obtain ⟨k2, hk2⟩ : ∃ z, ((keyB 2).map u8v).toArray = z := ⟨_, rfl⟩
  obtain ⟨k0, hk0⟩ : ∃ z, ((List.replicate 32 (0 : UInt8)).map u8v).toArray = z := ⟨_, rfl⟩
  obtain ⟨x1, hx1⟩ : ∃ z, x11.cells.toArray = z := ⟨_, rfl⟩
  have HI1 := fun W : World => (show Calls Try.prog 12 #[.slice none 0 0, .agg (prefC (maskM (hostM 0 0) 8) (8 : Int)).toArray, .agg ((keyB 1).map u8v).toArray] W (fun e w' => ∃ A c, e = .returned (.tuple #[.slice A 1 c, .int .i64 0]) ∧ (1 ≤ c ∧ c ≤ maxLen) ∧ RtRd w' w'.heap.size A 1 bl1 ∧ Below W.heap.size W w') from by
    have h := HINS none 0 0 [] (maskM (hostM 0 0) 8) 8 (keyB 1) W (maskM_ok _ (hostM_ok 0 0) 8) (by unfold inI64; omega) rfl ⟨by omega, by omega, by unfold maxLen; omega, RtRd.nil⟩
    rw [bl1_err] at h
    refine h.mono ?_
    rintro e w' ⟨v, he, A, c, hv, h1, h2, hr, hb⟩
    subst hv
    have hl : (insM [] (maskM (hostM 0 0) 8) 8 (keyB 1)).1.length = 1 := bl1_len
    rw [hl] at he hr h1
    exact ⟨A, c, he, ⟨h1, h2⟩, hr, hb⟩)
  rw [hp8, hk1] at HI1
  have HHI1 := Lib.hid HI1
  clear HI1
  have HI2 := fun (A : Option Addr) (c : Nat) (W : World) (h1 : 1 ≤ c ∧ c ≤ maxLen) (hr : RtRd W W.heap.size A 1 bl1) => (show Calls Try.prog 12 #[.slice A 1 c, .agg (prefC (maskM (hostM 1 0) 16) (16 : Int)).toArray, .agg ((keyB 2).map u8v).toArray] W (fun e w' => ∃ A c, e = .returned (.tuple #[.slice A 2 c, .int .i64 0]) ∧ (2 ≤ c ∧ c ≤ maxLen) ∧ RtRd w' w'.heap.size A 2 bl2 ∧ Below W.heap.size W w') from by
    have h := HINS A 1 c bl1 (maskM (hostM 1 0) 16) 16 (keyB 2) W (maskM_ok _ (hostM_ok 1 0) 16) (by unfold inI64; omega) rfl ⟨by omega, h1.1, h1.2, hr⟩
    rw [bl2_err] at h
    refine h.mono ?_
    rintro e w' ⟨v, he, A, c, hv, h1, h2, hr, hb⟩
    subst hv
    have hl : (insM bl1 (maskM (hostM 1 0) 16) 16 (keyB 2)).1.length = 2 := bl2_len
    rw [hl] at he hr h1
    exact ⟨A, c, he, ⟨h1, h2⟩, hr, hb⟩)
  rw [hp16, hk2] at HI2
  have HHI2 := Lib.hid HI2
  clear HI2
  have L1 := fun (A : Option Addr) (c : Nat) (W : World) (h1 : 2 ≤ c ∧ c ≤ maxLen) (hr : RtRd W W.heap.size A 2 bl2) => (show Calls Try.prog 26 #[.slice A 2 c, .agg ((hostM 1 3).cells).toArray] W (fun e w' => e = .returned (.tuple #[.agg ((keyB 2).map u8v).toArray, .bool true]) ∧ Below W.heap.size W w') from by
    have h := HLK A 2 c bl2 (hostM 1 3) W (hostM_ok 1 3) ⟨by omega, h1.1, h1.2, hr⟩
    rw [bl_one] at h
    exact h)
  rw [ha13, hk2] at L1
  have HL1 := Lib.hid L1
  clear L1
  have L2 := fun (A : Option Addr) (c : Nat) (W : World) (h1 : 2 ≤ c ∧ c ≤ maxLen) (hr : RtRd W W.heap.size A 2 bl2) => (show Calls Try.prog 26 #[.slice A 2 c, .agg ((hostM 2 3).cells).toArray] W (fun e w' => e = .returned (.tuple #[.agg ((keyB 1).map u8v).toArray, .bool true]) ∧ Below W.heap.size W w') from by
    have h := HLK A 2 c bl2 (hostM 2 3) W (hostM_ok 2 3) ⟨by omega, h1.1, h1.2, hr⟩
    rw [bl_two] at h
    exact h)
  rw [ha23, hk1] at L2
  have HL2 := Lib.hid L2
  clear L2
  have L3 := fun (A : Option Addr) (c : Nat) (W : World) (h1 : 2 ≤ c ∧ c ≤ maxLen) (hr : RtRd W W.heap.size A 2 bl2) => (show Calls Try.prog 26 #[.slice A 2 c, .agg (x11.cells).toArray] W (fun e w' => e = .returned (.tuple #[.agg ((List.replicate 32 (0 : UInt8)).map u8v).toArray, .bool false]) ∧ Below W.heap.size W w') from by
    have h := HLK A 2 c bl2 x11 W rfl ⟨by omega, h1.1, h1.2, hr⟩
    rw [bl_none] at h
    exact h)
  rw [hx1, hk0] at L3
  have HL3 := Lib.hid L3
  clear L3
  have M8 := fun W : World => (show Calls Try.prog 30 #[.agg (hostM 0 0).cells.toArray, .int .i64 8] W (fun e w' => e = .returned (.agg (prefC (maskM (hostM 0 0) 8) (8 : Int)).toArray) ∧ Below W.heap.size W w') from caseMasked_any (hostM 0 0) (hostM_ok 0 0) 8 (by omega) W)
  rw [ha00, hp8] at M8
  have HM8 := Lib.hid M8
  clear M8
  have M16 := fun W : World => (show Calls Try.prog 30 #[.agg (hostM 1 0).cells.toArray, .int .i64 16] W (fun e w' => e = .returned (.agg (prefC (maskM (hostM 1 0) 16) (16 : Int)).toArray) ∧ Below W.heap.size W w') from caseMasked_any (hostM 1 0) (hostM_ok 1 0) 16 (by omega) W)
  rw [ha10, hp16] at M16
  have HM16 := Lib.hid M16
  clear M16
  have A00 := fun W : World => (show Calls Try.prog 31 #[.int .i64 0, .int .i64 0] W (fun e w' => e = .returned (.agg (hostM 0 0).cells.toArray) ∧ Below W.heap.size W w') from caseHost_any 0 0 W)
  rw [ha00] at A00
  have HA00 := Lib.hid A00
  clear A00
  have A10 := fun W : World => (show Calls Try.prog 31 #[.int .i64 1, .int .i64 0] W (fun e w' => e = .returned (.agg (hostM 1 0).cells.toArray) ∧ Below W.heap.size W w') from caseHost_any 1 0 W)
  rw [ha10] at A10
  have HA10 := Lib.hid A10
  clear A10
  have A13 := fun W : World => (show Calls Try.prog 31 #[.int .i64 1, .int .i64 3] W (fun e w' => e = .returned (.agg (hostM 1 3).cells.toArray) ∧ Below W.heap.size W w') from caseHost_any 1 3 W)
  rw [ha13] at A13
  have HA13 := Lib.hid A13
  clear A13
  have A23 := fun W : World => (show Calls Try.prog 31 #[.int .i64 2, .int .i64 3] W (fun e w' => e = .returned (.agg (hostM 2 3).cells.toArray) ∧ Below W.heap.size W w') from caseHost_any 2 3 W)
  rw [ha23] at A23
  have HA23 := Lib.hid A23
  clear A23
  have b1 : Try.prog.built 30 [(0, .int .u8 1)] = some ((keyB 1).map u8v).toArray := by kernel_rfl
  have b2 : Try.prog.built 30 [(0, .int .u8 2)] = some ((keyB 2).map u8v).toArray := by kernel_rfl
  have b3 : Try.prog.built 24 [(0, .int .u8 11)] = some (x11.ip.map u8v).toArray := by kernel_rfl
  have b4 : Try.prog.built 26 [(1, .agg (x11.ip.map u8v).toArray)] = some x11.cells.toArray := by kernel_rfl
  obtain ⟨ip, hip⟩ : ∃ z, (x11.ip.map u8v).toArray = z := ⟨_, rfl⟩
  rw [hk1] at b1
  rw [hk2] at b2
  rw [hip] at b3 b4
  rw [hx1] at b4
  have HB1 := Lib.hid b1
  have HB2 := Lib.hid b2
  have HB3 := Lib.hid b3
  have HB4 := Lib.hid b4
  have HK1 := Lib.hid hk1
  have HK2 := Lib.hid hk2
  have HK0 := Lib.hid hk0
  have heq := fun (k : List UInt8) (hk : k.length = 32) (w' : World) => key_eq k k hk hk w'
  have he1 := heq (keyB 1) rfl
  have he2 := heq (keyB 2) rfl
  rw [hk1, decide_eq_true rfl] at he1
  rw [hk2, decide_eq_true rfl] at he2
  have HE1 := Lib.hid he1
  have HE2 := Lib.hid he2
  clear heq he1 he2 b1 b2 b3 b4 hip hk1 hk2 hk0 hx1 ha00 ha10 ha13 ha23 hp8 hp16 HINS HLK
  have HM := Lib.hid (Lows.nil w)
  go_enter Try.func24, Try.ntmps24
  go_wp2_with fail
  refine (HA00.out _).mono ?_
  rintro e w1 ⟨rfl, hb⟩
  replace HM := Lib.hid (HM.out.below hb)
  clear hb
  go_wp2_with fail
  refine (HM8.out _).mono ?_
  rintro e w2 ⟨rfl, hb⟩
  replace HM := Lib.hid (HM.out.below hb)
  clear hb
  go_wp2_with (refine wpList_build_as rfl 30 [(0, .const (.int .u8 1))] rfl k1 ?_ ?_; exact HB1.out)
  refine (HHI1.out _).mono ?_
  rintro e w3 ⟨A1, c1, rfl, hc, hr, hb⟩
  have HC1 := Lib.hid hc
  replace HM := Lib.hid (show Lows w [rtL A1 1 bl1] w3 from (HM.out.below hb).cons (rtL A1 1 bl1) hr)
  clear hc hr hb
  go_wp2_with fail
  refine (HA10.out _).mono ?_
  rintro e w4 ⟨rfl, hb⟩
  replace HM := Lib.hid (HM.out.below hb)
  clear hb
  go_wp2_with fail
  refine (HM16.out _).mono ?_
  rintro e w5 ⟨rfl, hb⟩
  replace HM := Lib.hid (HM.out.below hb)
  clear hb
  go_wp2_with (refine wpList_build_as rfl 30 [(0, .const (.int .u8 2))] rfl k2 ?_ ?_; exact HB2.out)
  refine (HHI2.out A1 c1 _ HC1.out (HM.out.get (f := rtL A1 1 bl1) 0 rfl)).mono ?_
  rintro e w6 ⟨A2, c2, rfl, hc, hr, hb⟩
  have HC2 := Lib.hid hc
  replace HM := Lib.hid (show Lows w [rtL A2 2 bl2] w6 from ((HM.out.below hb).cons (rtL A2 2 bl2) hr).tail 1)
  clear hc hr hb
  go_wp2_with fail
  refine (HA13.out _).mono ?_
  rintro e w7 ⟨rfl, hb⟩
  replace HM := Lib.hid (HM.out.below hb)
  clear hb
  go_wp2_with fail
  refine (HL1.out A2 c2 _ HC2.out (HM.out.get (f := rtL A2 2 bl2) 0 rfl)).mono ?_
  rintro e w8 ⟨rfl, hb⟩
  replace HM := Lib.hid (HM.out.below hb)
  clear hb
  have HZ := Lib.hid (Blk.new w8 30 (aeZ 32))
  go_upto_region 4 with (refine wpList_store_obj rfl 30 (.tmp 4) (.tmp 29) rfl w8.heap.size 0 ((keyB 2).map u8v) rfl (by show Value.agg k2 = _; rw [HK2.out]) 30 (aeZ 32) HZ.out (key_cellsOf _ rfl) (by decide) (u8v_one _) ?_; intro w9 hb9 hg9)
  rw [setL_all (aeZ 32) ((keyB 2).map u8v) rfl] at hb9
  replace HM := Lib.hid (show Lows w [blkL w8.heap.size 30 ((keyB 2).map u8v), rtL A2 2 bl2] w9 from HM.out.stored hg9 hb9)
  clear hb9 hg9 HZ
  generalize w8.heap.size = g4 at HM ⊢
  go_wp2_with fail
  refine (HA23.out _).mono ?_
  rintro e w10 ⟨rfl, hb⟩
  replace HM := Lib.hid (HM.out.below hb)
  clear hb
  go_wp2_with fail
  refine (HL2.out A2 c2 _ HC2.out (HM.out.get (f := rtL A2 2 bl2) 1 rfl)).mono ?_
  rintro e w11 ⟨rfl, hb⟩
  replace HM := Lib.hid (HM.out.below hb)
  clear hb
  have HZ := Lib.hid (Blk.new w11 30 (aeZ 32))
  go_upto_region 5 with (refine wpList_store_obj rfl 30 (.tmp 6) (.tmp 35) rfl w11.heap.size 0 ((keyB 1).map u8v) rfl (by show Value.agg k1 = _; rw [HK1.out]) 30 (aeZ 32) HZ.out (key_cellsOf _ rfl) (by decide) (u8v_one _) ?_; intro w12 hb9 hg9)
  rw [setL_all (aeZ 32) ((keyB 1).map u8v) rfl] at hb9
  replace HM := Lib.hid (show Lows w [blkL w11.heap.size 30 ((keyB 1).map u8v), blkL g4 30 ((keyB 2).map u8v), rtL A2 2 bl2] w12 from HM.out.stored hg9 hb9)
  clear hb9 hg9 HZ
  generalize w11.heap.size = g6 at HM ⊢
  go_wp2_with (first | (refine wpList_build_as rfl 24 [(0, .const (.int .u8 11))] rfl ip ?_ ?_; exact HB3.out) | (refine wpList_build_as rfl 26 [(1, .tmp 39)] rfl x1 ?_ ?_; exact HB4.out))
  refine (HL3.out A2 c2 _ HC2.out (HM.out.get (f := rtL A2 2 bl2) 2 rfl)).mono ?_
  rintro e w13 ⟨rfl, hb⟩
  replace HM := Lib.hid (HM.out.below hb)
  clear hb
  have HZ := Lib.hid (Blk.new w13 30 (aeZ 32))
  go_upto_region 6 with (refine wpList_store_obj rfl 30 (.tmp 8) (.tmp 42) rfl w13.heap.size 0 ((List.replicate 32 (0 : UInt8)).map u8v) rfl (by show Value.agg k0 = _; rw [HK0.out]) 30 (aeZ 32) HZ.out (key_cellsOf _ rfl) (by decide) (u8v_one _) ?_; intro w14 hb9 hg9)
  rw [setL_all (aeZ 32) ((List.replicate 32 (0 : UInt8)).map u8v) rfl] at hb9
  replace HM := Lib.hid (show Lows w [blkL w13.heap.size 30 ((List.replicate 32 (0 : UInt8)).map u8v), blkL g6 30 ((keyB 1).map u8v), blkL g4 30 ((keyB 2).map u8v), rtL A2 2 bl2] w14 from HM.out.stored hg9 hb9)
  clear hb9 hg9 HZ
  generalize w13.heap.size = g8 at HM ⊢
  go_wp2_with (first | (refine wpList_load_obj_g (by rfl) 30 (.tmp 4) rfl g4 0 rfl ((keyB 2).map u8v) (HM.out.blk 2 rfl).all _ Try.underlying30 rfl (key_cellsOf _ rfl) ?_; rw [HK2.out]) | (refine wpList_load_obj_g (by rfl) 30 (.tmp 6) rfl g6 0 rfl ((keyB 1).map u8v) (HM.out.blk 1 rfl).all _ Try.underlying30 rfl (key_cellsOf _ rfl) ?_; rw [HK1.out]) | (refine wpList_build_as_g (by rfl) 30 [(0, .const (.int .u8 2))] rfl k2 ?_ ?_; exact HB2.out) | (refine wpList_build_as_g (by rfl) 30 [(0, .const (.int .u8 1))] rfl k1 ?_ ?_; exact HB1.out) | (refine wpList_eql_agg (by rfl) 30 30 61 62 rfl k2 k2 true rfl rfl key_noguard (HE2.out _) ?_) | (refine wpList_eql_agg (by rfl) 30 30 66 67 rfl k1 k1 true rfl rfl key_noguard (HE1.out _) ?_))
  go_ret
  exact ⟨rfl, HM.out.bel⟩
end Go.Proofs.Ytnblofbbbkjhpaa
namespace Go.Proofs.Ytnblofbbbkjhpaa
open Go.RowKit

theorem route_bits (r : RouteM) (h : r.ok) : r.cells[17]? = some (.int .i64 r.bits) := by
  rw [RouteM.cells, List.getElem?_append_left (by rw [prefC_length r.a h.1]; omega)]
  exact prefC_bits r.a h.1 r.bits
end Go.Proofs.Ytnblofbbbkjhpaa
namespace Go.Proofs.Ytnblofbbbkjhpaa
open Go.RowKit

theorem contains_nonneg {a x : AddrM} {b : Int} (h : containsM a b x = true) : 0 ≤ b := by
  unfold containsM validM at h
  simp only [Bool.and_eq_true, decide_eq_true_eq] at h
  omega
theorem bestTo_some {l : List RouteM} {x : AddrM} : ∀ {j i : Nat}, bestTo l x j = some i → ∃ r, l[i]? = some r ∧ containsM r.a r.bits x = true
  | 0, _, h => by cases h
  | j + 1, i, h => by
    cases hj : l[j]? with
    | none =>
      rw [bestTo, hj] at h
      exact bestTo_some h
    | some r =>
      cases hc : containsM r.a r.bits x with
      | false =>
        rw [bestTo_no hj hc] at h
        exact bestTo_some h
      | true =>
        cases hb : bestTo l x j with
        | none =>
          rw [bestTo_first hj hc hb] at h
          injection h with h
          subst h
          exact ⟨r, hj, hc⟩
        | some k =>
          obtain ⟨q, hq, hqc⟩ := bestTo_some hb
          rw [bestTo_more hj hc hb hq] at h
          split at h
          · injection h with h
            subst h
            exact ⟨r, hj, hc⟩
          · injection h with h
            subst h
            exact ⟨q, hq, hqc⟩
/-- the bits and the peer of the longest prefix so far -/
def longTo (l : List RouteM) (x : AddrM) (j : Nat) : Int × List UInt8 := match bestTo l x j with
  | none => (-1, List.replicate 32 0)
  | some i => match l[i]? with
    | none => (-1, List.replicate 32 0)
    | some r => (r.bits, r.peer)
theorem longTo_none {l : List RouteM} {x : AddrM} {j : Nat} (h : bestTo l x j = none) : longTo l x j = (-1, List.replicate 32 0) := by rw [longTo, h]
theorem longTo_some {l : List RouteM} {x : AddrM} {j i : Nat} {r : RouteM} (h : bestTo l x j = some i) (hr : l[i]? = some r) : longTo l x j = (r.bits, r.peer) := by
  rw [longTo, h]
  show (match l[i]? with | none => _ | some r => (r.bits, r.peer)) = _
  rw [hr]
theorem longTo_step {l : List RouteM} {x : AddrM} {j : Nat} {r : RouteM} (hj : l[j]? = some r) : longTo l x (j + 1) = if containsM r.a r.bits x = true ∧ (longTo l x j).1 < r.bits then (r.bits, r.peer) else longTo l x j := by
  cases hc : containsM r.a r.bits x with
  | false =>
    rw [if_neg (by simp), longTo, bestTo_no hj hc]
    rfl
  | true =>
    have h0 := contains_nonneg hc
    cases hb : bestTo l x j with
    | none =>
      rw [longTo_some (bestTo_first hj hc hb) hj, longTo_none hb, if_pos ⟨rfl, by show (-1 : Int) < _; omega⟩]
    | some k =>
      obtain ⟨q, hq, _⟩ := bestTo_some hb
      have hm := bestTo_more hj hc hb hq
      rw [longTo_some hb hq]
      by_cases h : q.bits < r.bits
      · rw [if_pos h] at hm
        rw [longTo_some hm hj, if_pos ⟨rfl, h⟩]
      · rw [if_neg h] at hm
        rw [longTo_some hm hq, if_neg (fun e => h e.2)]
theorem longTo_end (l : List RouteM) (x : AddrM) : lookM l x = ((longTo l x l.length).2, decide (0 ≤ (longTo l x l.length).1)) := by
  cases hb : bestTo l x l.length with
  | none => rw [longTo_none hb, lookM, hb]; rfl
  | some k =>
    obtain ⟨q, hq, hc⟩ := bestTo_some hb
    have h0 := contains_nonneg hc
    rw [longTo_some hb hq, lookM, hb]
    show (match l[k]? with | none => _ | some r => (r.peer, true)) = _
    rw [hq]
    simp [h0]
end Go.Proofs.Ytnblofbbbkjhpaa
namespace Go.Proofs.Ytnblofbbbkjhpaa
open Go.RowKit

theorem foldl_ins_len : ∀ (xs : List ((AddrM × Int) × UInt8)) (l : List RouteM), (xs.foldl (fun l x => (insM l x.1.1 x.1.2 (keyB x.2)).1) l).length ≤ l.length + xs.length
  | [], l => by simp
  | x :: xs, l => by
    rw [List.foldl_cons, List.length_cons]
    refine Nat.le_trans (foldl_ins_len xs _) ?_
    have := insM_len l x.1.1 x.1.2 (keyB x.2)
    omega
theorem insAll_len (xs : List ((AddrM × Int) × UInt8)) : (insAll xs).length ≤ xs.length := by
  have := foldl_ins_len xs []
  simpa [insAll] using this
theorem At.grown_at {W W' : World} {b off g : Nat} {cs : List Value} (h : At W b off cs) (hb : b < W.heap.size) (hg : W.grownBy W' (some g)) (hne : b ≠ g) : At W' b off cs := fun j v hv => (World.cell?_of_block (hg.block b hb (fun e2 => by injection e2 with e2; exact hne e2))).trans (h j v hv)
theorem longTo_peer {l : List RouteM} (hl : ∀ r ∈ l, r.ok) (x : AddrM) (j : Nat) : (longTo l x j).2.length = 32 := by
  cases hb : bestTo l x j with
  | none => rw [longTo_none hb]; rfl
  | some i =>
    obtain ⟨r, hr, _⟩ := bestTo_some hb
    rw [longTo_some hb hr]
    exact (hl r (List.mem_of_getElem? hr)).2.1
set_option maxRecDepth 100000 in
set_option maxHeartbeats 8000000 in
theorem rt_longest_walk (HINS : RtInsC 12) (HLK : RtLookC 26) (w : World) (A : Option Addr) (n c : Nat) (l : List UInt8) (hnc : n ≤ c) (hcm : c ≤ maxLen) (hr : Rd w w.heap.size A n l) (Am : Option Addr) (nm cm : Nat) (lm : List UInt8) (hncm : nm ≤ cm) (hcmm : cm ≤ maxLen) (hrm : Rd w w.heap.size Am nm lm) :
    Calls Try.prog 5 #[.slice A n c, .slice Am nm cm] w fun e w' => e = .returned (.bool true) ∧ Below w.heap.size w w' := by
  have HBG := Lib.hid (fun W : World => rt_begun_any HINS HLK W)
  have HL := Lib.hid HLK
  have HMD := Lib.hid (made_any A n c l hnc hcm w hr)
  obtain ⟨k0, hk⟩ : ∃ k, min nm 30 = k := ⟨_, rfl⟩
  have HR := Lib.hid (hrm.take (show k0 ≤ nm by omega))
  have HW1 := Lib.hid (caseNew_any Am nm cm 30 k0 (by omega) hncm hcmm hk)
  have hk30 : k0 ≤ 30 := by omega
  generalize lm.take k0 = lk at HR
  clear hr hrm hk hnc hcm hncm hcmm HINS HLK
  go_enter Try.func5, Try.ntmps5
  go_wp2_with fail
  refine HMD.out.mono ?_
  rintro e w1 ⟨xs, A9, c9, hmo, rfl, hrt, hcp, hb1⟩
  have hlen := Nat.le_trans (insAll_len xs) hmo.1
  generalize insAll xs = rs at hrt hcp hlen ⊢
  obtain ⟨nn, hnn⟩ : ∃ z, rs.length = z := ⟨_, rfl⟩
  rw [hnn] at hrt hcp hlen ⊢
  have HNN := Lib.hid hnn
  have HCP := Lib.hid hcp
  have HM1 := Lib.hid (show RtRd w1 w1.heap.size A9 nn rs ∧ Below w.heap.size w w1 from ⟨hrt, hb1⟩)
  clear hnn hcp hrt hb1 hmo HMD
  go_wp2_with fail
  refine (HW1.out w1).mono ?_
  rintro e w2 ⟨rfl, hm⟩
  have hc : CodesAt w2 w1.heap.size Am k0 cm lk w.heap.size 0 := ⟨hm.blk 0 rfl, HR.out.below (HM1.out.2.trans (hm.bel.mono HM1.out.2.size)), HM1.out.2.size, (hm.blk 0 rfl).lt, by omega, Nat.zero_le _⟩
  have HAC := Lib.hid (caseAddr_any w1.heap.size Am k0 cm lk w.heap.size 0 w2 hc)
  have HB2 := Lib.hid hm.bel
  clear hc hm HW1
  go_wp2_with fail
  refine HAC.out.mono ?_
  rintro e w3 ⟨rfl, _, hg⟩
  have hb3 : Below w1.heap.size w1 w3 := HB2.out.grown hg HB2.out.size (fun q hq => by injection hq with hq; omega)
  have HM := Lib.hid (show Lows w [rtL A9 nn rs] w3 from Lows.cons (Lows.below (W := w1) ⟨by simp, HM1.out.2⟩ hb3) (rtL A9 nn rs) ((HM1.out.1.below hb3).mono hb3.size))
  clear hg hb3 HB2 HAC HR hk30 HM1
  have hx := codeA_ok lk 0
  generalize codeA lk 0 = x at hx ⊢
  have HOX := Lib.hid hx
  obtain ⟨cx, hcx⟩ : ∃ z, x.cells.toArray = z := ⟨_, rfl⟩
  rw [hcx]
  have HCX := Lib.hid hcx
  clear hx hcx
  have HZ := Lib.hid (Blk.new w3 26 addr0.cells)
  go_upto_region 2 with (refine wpList_store_obj rfl 26 (.tmp 6) (.tmp 17) rfl w3.heap.size 0 x.cells rfl (by show Value.agg cx = _; rw [HCX.out]) 26 addr0.cells HZ.out (addr_cellsOf x HOX.out) (by rw [AddrM.cells_length HOX.out]; decide) (x.one) ?_; intro w4 hb4 hg4)
  rw [setL_all _ _ (by rw [AddrM.cells_length HOX.out]; rfl)] at hb4
  replace HM := Lib.hid (show Lows w [blkL w3.heap.size 26 x.cells, rtL A9 nn rs] w4 from HM.out.stored hg4 hb4)
  clear hb4 hg4 HZ
  generalize w3.heap.size = ga at HM ⊢
  have HLO := Lib.hid (fun (W : World) (h : RtRd W W.heap.size A9 nn rs) => HL.out A9 nn c9 rs x W HOX.out ⟨by omega, HCP.out.1, HCP.out.2, h⟩)
  have hend := longTo_end rs x
  rw [HNN.out] at hend
  have HKL := Lib.hid (longTo_peer (HM.out.get (f := rtL A9 nn rs) 1 rfl).2 x nn)
  rw [hend, HCX.out] at HLO
  clear hend HL
  obtain ⟨kf, hkf⟩ : ∃ z, (longTo rs x nn).2 = z := ⟨_, rfl⟩
  obtain ⟨mf, hmf⟩ : ∃ z, (longTo rs x nn).1 = z := ⟨_, rfl⟩
  rw [hkf] at HLO HKL
  rw [hmf] at HLO
  have HKF := Lib.hid (And.intro hkf hmf)
  obtain ⟨kk, hkk⟩ : ∃ z, (kf.map u8v).toArray = z := ⟨_, rfl⟩
  obtain ⟨okb, hokb⟩ : ∃ z, decide (0 ≤ mf) = z := ⟨_, rfl⟩
  have HOK := Lib.hid hokb
  have hlo : ∀ (W : World), RtRd W W.heap.size A9 nn rs → Calls Try.prog 26 #[.slice A9 nn c9, .agg cx] W fun e w' => e = .returned (.tuple #[.agg kk, .bool okb]) ∧ Below W.heap.size W w' := by
    intro W h
    have := HLO.out W h
    rw [← hkk, ← hokb]
    exact this
  have HLW := Lib.hid hlo
  have HKK := Lib.hid hkk
  clear hkf hmf hkk hlo HLO hokb
  go_wp2_with (refine wpList_load_obj rfl 26 (.tmp 6) rfl ga 0 rfl x.cells (HM.out.blk 0 rfl).all _ Try.underlying26 rfl (addr_cellsOf x HOX.out) ?_; rw [HCX.out])
  refine (HLW.out _ (HM.out.get (f := rtL A9 nn rs) 1 rfl)).mono ?_
  rintro e w5 ⟨rfl, hb⟩
  replace HM := Lib.hid (HM.out.below hb)
  clear hb HLW
  have HZ := Lib.hid (Blk.new w5 30 (aeZ 32))
  go_upto_region 3 with (refine wpList_store_obj rfl 30 (.tmp 7) (.tmp 22) rfl w5.heap.size 0 (kf.map u8v) rfl (by show Value.agg kk = _; rw [HKK.out]) 30 (aeZ 32) HZ.out (key_cellsOf _ HKL.out) (by rw [List.length_map, HKL.out]; decide) (u8v_one _) ?_; intro w6 hb6 hg6)
  rw [setL_all _ _ (by rw [List.length_map, HKL.out]; rfl)] at hb6
  replace HM := Lib.hid (show Lows w [blkL w5.heap.size 30 (kf.map u8v), blkL ga 26 x.cells, rtL A9 nn rs] w6 from HM.out.stored hg6 hb6)
  clear hb6 hg6 HZ
  generalize w5.heap.size = gk at HM ⊢
  have HZ := Lib.hid (Blk.new w6 30 (aeZ 32))
  go_upto_region 4 with (first | (refine wpList_build_as rfl 30 [] rfl #[.int .u8 0, .int .u8 0, .int .u8 0, .int .u8 0, .int .u8 0, .int .u8 0, .int .u8 0, .int .u8 0, .int .u8 0, .int .u8 0, .int .u8 0, .int .u8 0, .int .u8 0, .int .u8 0, .int .u8 0, .int .u8 0, .int .u8 0, .int .u8 0, .int .u8 0, .int .u8 0, .int .u8 0, .int .u8 0, .int .u8 0, .int .u8 0, .int .u8 0, .int .u8 0, .int .u8 0, .int .u8 0, .int .u8 0, .int .u8 0, .int .u8 0, .int .u8 0] ?_ ?_; kernel_rfl) | (refine wpList_store_obj rfl 30 (.tmp 10) (.tmp 24) rfl w6.heap.size 0 (aeZ 32) rfl (by rfl) 30 (aeZ 32) HZ.out (by kernel_rfl) (by decide) (by decide) ?_; intro w7 hb7 hg7))
  rw [setL_all _ _ rfl] at hb7
  have hbf := below_fresh hg7
  obtain ⟨gz, hgz⟩ : ∃ z, w6.heap.size = z := ⟨_, rfl⟩
  rw [hgz] at hb7 ⊢
  obtain ⟨B6, hB6⟩ : ∃ z, w6.heap.size = z := ⟨_, rfl⟩
  rw [hB6] at hbf
  have HGZ := Lib.hid (show B6 ≤ gz by omega)
  have HB6 := Lib.hid hB6
  have H0 := Lib.hid (And.intro hb7 hbf)
  clear hb7 hbf hg7 HZ hgz hB6
  go_wp2_with fail
  go_loopw [27, 9] (fun i vm wr => ∃ j : Nat, j ≤ nn ∧ i = .int .i64 (j : Int) ∧ vm = .int .i64 (longTo rs x j).1 ∧ Blk wr gz 30 ((longTo rs x j).2.map u8v) ∧ Below B6 w6 wr) (fun i _ _ => nn - (intOf i).toNat)
  case atStart => exact ⟨0, by omega, rfl, rfl, H0.out.1, H0.out.2⟩
  case round =>
    clear H0
    obtain ⟨j, hj, rfl, rfl, hfb, hbl⟩ := hrel
    have HFB := Lib.hid hfb
    have HBL := Lib.hid hbl
    have hlw := HM.out.below (show Below w6.heap.size w6 wr from HB6.out ▸ hbl)
    have HLW := Lib.hid hlw
    clear hfb hbl hlw
    by_cases hjn : j < nn
    · have d1 : decide ((j : Int) < (nn : Int)) = true := by simp; omega
      obtain ⟨b, off, rfl⟩ := (HLW.out.get (f := rtL A9 nn rs) 2 rfl).1.addr (by omega)
      obtain ⟨r, hr⟩ : ∃ r, rs[j]? = some r := ⟨rs[j]'(by rw [HNN.out]; exact hjn), List.getElem?_eq_getElem _⟩
      have HOK2 := Lib.hid ((HLW.out.get (f := rtL (some ⟨b, off, none⟩) nn rs) 2 rfl).ok hr)
      have HLA := Lib.hid ((HLW.out.get (f := rtL (some ⟨b, off, none⟩) nn rs) 2 rfl).at j r hr).2
      have hst := longTo_step (x := x) hr
      have HFL := Lib.hid (longTo_peer (HLW.out.get (f := rtL (some ⟨b, off, none⟩) nn rs) 2 rfl).2 x j)
      clear hr
      generalize hfk : (longTo rs x j).2 = fk at HFB HFL
      generalize hfm : (longTo rs x j).1 = fm at hst ⊢
      obtain ⟨rc, hrc⟩ : ∃ z, r.cells.toArray = z := ⟨_, rfl⟩
      obtain ⟨rp, hrp⟩ : ∃ z, (prefC r.a r.bits).toArray = z := ⟨_, rfl⟩
      obtain ⟨rk, hrk⟩ : ∃ z, (r.peer.map u8v).toArray = z := ⟨_, rfl⟩
      have hvc := refContains_any r.a HOK2.out.1 r.bits HOK2.out.2.2.1 HOK2.out.2.2.2 x HOX.out
      rw [hrp, HCX.out] at hvc
      have HRC := Lib.hid hrc
      have HRP := Lib.hid hrp
      have HRK := Lib.hid hrk
      have HCC := Lib.hid hvc
      clear hrc hrp hrk hvc
      have HZ := Lib.hid (Blk.new wr 37 routeZ)
      go_upto_region 7 with (first | (refine wpList_load_obj rfl 37 (.tmp 29) rfl b _ rfl r.cells HLA.out _ Try.underlying37 rfl (route_cellsOf r HOK2.out) ?_; rw [HRC.out]) | (refine wpList_store_obj rfl 37 (.tmp 12) (.tmp 30) rfl wr.heap.size 0 r.cells rfl (by show Value.agg rc = _; rw [HRC.out]) 37 routeZ HZ.out (route_cellsOf r HOK2.out) (by rw [RouteM.cells_length HOK2.out, routeZ_length]; omega) (route_one r) ?_; intro w8 hb8 hg8))
      rw [setL_all routeZ r.cells (by rw [RouteM.cells_length HOK2.out, routeZ_length])] at hb8
      have hbf := below_fresh hg8
      have HP8 := Lib.hid (show Lows w [blkL wr.heap.size 37 r.cells, blkL gk 30 (kf.map u8v), blkL ga 26 x.cells, rtL (some ⟨b, off, none⟩) nn rs] w8 from HLW.out.stored hg8 hb8)
      have HFX := Lib.hid (show Blk w8 gz 30 (fk.map u8v) ∧ Below B6 w6 w8 ∧ gz < wr.heap.size from ⟨HFB.out.below hbf HFB.out.lt, HBL.out.trans (hbf.mono (by have h1 := HGZ.out; have h2 := HFB.out.lt; omega)), HFB.out.lt⟩)
      clear hb8 hg8 hbf HZ HLW HFB HBL HLA d1
      generalize wr.heap.size = P1 at HP8 HFX ⊢
      go_wp2_with (first | (refine wpList_load_obj rfl 28 (.tmp 31) rfl P1 0 rfl (prefC r.a r.bits) (route_pref (HP8.out.blk 0 rfl).all) _ Try.underlying28 rfl (pref_cellsOf' r.a HOK2.out.1 r.bits) ?_; rw [HRP.out]) | (refine wpList_load_obj rfl 26 (.tmp 6) rfl ga 0 rfl x.cells (HP8.out.blk 2 rfl).all _ Try.underlying26 rfl (addr_cellsOf x HOX.out) ?_; rw [HCX.out]))
      refine (HCC.out _).mono ?_
      rintro e w9 ⟨rfl, hb⟩
      have HF9 := Lib.hid (show Blk w9 gz 30 (fk.map u8v) ∧ Below B6 w6 w9 ∧ P1 < w9.heap.size ∧ Blk w9 P1 37 r.cells from by
        have h1 := (HP8.out.below hb).blk 0 rfl
        exact ⟨HFX.out.1.below hb HFX.out.1.lt, HFX.out.2.1.trans (hb.mono (by have h1 := HGZ.out; have h2 := HFX.out.1.lt; omega)), h1.lt, h1⟩)
      have HPN := Lib.hid (show P1 ≠ gz by have := HFX.out.2.2; omega)
      clear hb HP8 HFX
      have HFK := Lib.hid (And.intro hfk hfm)
      clear hfk hfm
      obtain ⟨v, hv⟩ : ∃ v, containsM r.a r.bits x = v := ⟨_, rfl⟩
      rw [hv] at hst ⊢
      cases v with
      | false =>
        have HST := Lib.hid (hst.trans (if_neg (by simp)))
        clear hst hv
        go_wp2_with fail
        go_roundw
        case rel => exact ⟨j + 1, by omega, by go_num, by rw [HST.out, HFK.out.2], by rw [HST.out, HFK.out.1]; exact HF9.out.1, HF9.out.2.1⟩
        case measure => simp [intOf]; omega
      | true =>
        have f17 := HF9.out.2.2.2.cell 17
        rw [route_bits r HOK2.out] at f17
        by_cases hq : fm < r.bits
        · have HST := Lib.hid (hst.trans (if_pos ⟨rfl, hq⟩))
          have dq : decide (r.bits > fm) = true := by simpa using hq
          have dq2 : decide (fm < r.bits) = true := by simpa using hq
          clear hst hv hq
          go_upto_region 8 with fail
          clear f17 dq dq2
          have HFD := Lib.hid HF9.out.1.drew
          have HPD := Lib.hid (show At w9.drew P1 0 r.cells from HF9.out.2.2.2.drew.all)
          have HPL := Lib.hid (show P1 < w9.drew.heap.size from HF9.out.2.2.1)
          have HBD := Lib.hid (show Below B6 w6 w9.drew from HF9.out.2.1.drew)
          clear HF9
          refine wp_region_held_drew (S := fun W' => At W' P1 0 r.cells) (by kernel_rfl) (HPD.out) (fun hHeld => ?_)
          refine take_first (v := ?_) 0 rfl (by kernel_rfl) (by kernel_rfl) (by kernel_rfl) (fun _ _ _ h => h) (Or.inl ⟨by rfl, ?_⟩) (by assumption) ?_
          rotate_left
          · (intro w hSw; (try dsimp only at hSw); go_simp; try with_reducible rfl)
          (try simp only [Act.put, List.setIfInBounds_toArray, List.set_cons_zero, List.set_cons_succ])
          refine take_first (v := ?_) 1 rfl (by kernel_rfl) (by kernel_rfl) (by kernel_rfl) (fun _ _ _ h => h) (Or.inl ⟨by rfl, ?_⟩) (by assumption) ?_
          rotate_left
          · (intro w hSw; (try dsimp only at hSw); go_simp; try with_reducible rfl)
          (try simp only [Act.put, List.setIfInBounds_toArray, List.set_cons_zero, List.set_cons_succ])
          refine take_first (v := ?_) 2 rfl (by kernel_rfl) (by kernel_rfl) (by kernel_rfl) (fun _ _ _ h => h) (Or.inl ⟨by rfl, ?_⟩) (by assumption) ?_
          rotate_left
          · (intro w hSw; (try dsimp only at hSw); have fb := hSw 17 _ (route_bits r HOK2.out); go_simp; try with_reducible rfl)
          (try simp only [Act.put, List.setIfInBounds_toArray, List.set_cons_zero, List.set_cons_succ])
          refine take_first (v := ?_) 3 rfl (by kernel_rfl) (by kernel_rfl) (by kernel_rfl) (fun _ _ _ h => h) (Or.inl ⟨by rfl, ?_⟩) (by assumption) ?_
          rotate_left
          · (intro w hSw; (try dsimp only at hSw); go_simp; try with_reducible rfl)
          (try simp only [Act.put, List.setIfInBounds_toArray, List.set_cons_zero, List.set_cons_succ])
          refine take_first (v := .agg rk) 4 rfl (by kernel_rfl) (by kernel_rfl) (by kernel_rfl) (fun _ _ _ h => h) (by rw [← HRK.out]; exact yields_load_obj (by rfl) 30 (.tmp 45) rfl P1 18 rfl (r.peer.map u8v) (fun W hW => by simpa using route_peer hW HOK2.out) _ Try.underlying30 rfl (key_cellsOf _ HOK2.out.2.1)) (by assumption) ?_
          (try simp only [Act.put, List.setIfInBounds_toArray, List.set_cons_zero, List.set_cons_succ])
          refine take_first (v := ?_) 5 rfl (by kernel_rfl) (by kernel_rfl) (by kernel_rfl) (fun _ _ _ h => h) (Or.inl ⟨by rfl, ?_⟩) (by assumption) ?_
          rotate_left
          · (intro w hSw; (try dsimp only at hSw); go_simp; try with_reducible rfl)
          (try simp only [Act.put, List.setIfInBounds_toArray, List.set_cons_zero, List.set_cons_succ])
          clear hHeld
          refine step_one 6 rfl (by kernel_rfl) (fun K hK => ?_)
          refine step_store_obj rfl 30 (.tmp 10) (.tmp 46) rfl gz 0 (r.peer.map u8v) rfl (by show Value.agg rk = _; rw [HRK.out]) 30 (fk.map u8v) HFD.out (key_cellsOf _ HOK2.out.2.1) (by rw [List.length_map, List.length_map, HFL.out, HOK2.out.2.1]; decide) (u8v_one _) ?_
          intro wz hb9 hg9
          rw [setL_all _ _ (by rw [List.length_map, List.length_map, HFL.out, HOK2.out.2.1])] at hb9
          have HF := Lib.hid (show Blk wz gz 30 (r.peer.map u8v) ∧ Below B6 w6 wz from ⟨hb9, HBD.out.grown hg9 (by have h2 := HGZ.out; have h3 := HFD.out.lt; omega) (fun q hq => by injection hq with hq; have := HGZ.out; omega)⟩)
          have hat9 : At wz P1 0 r.cells := HPD.out.grown_at HPL.out hg9 HPN.out
          clear hb9 hg9
          refine hK.out _ _ hat9 (fun hHeld => ?_)
          clear hK K hat9 hHeld
          (try simp only [Act.put])
          refine wpAnyH_done (by kernel_rfl) ?_ _
          go_wp2_with fail
          go_roundw
          case rel => exact ⟨j + 1, by omega, by go_num, by rw [HST.out], by rw [HST.out]; exact HF.out.1, HF.out.2⟩
          case measure => simp [intOf]; omega
        · have HST := Lib.hid (hst.trans (if_neg (fun e => hq e.2)))
          have dq : decide (r.bits > fm) = false := by simpa using hq
          have dq2 : decide (fm < r.bits) = false := by simpa using hq
          clear hst hv hq
          go_wp2_with fail
          go_roundw
          case rel => exact ⟨j + 1, by omega, by go_num, by rw [HST.out, HFK.out.2], by rw [HST.out, HFK.out.1]; exact HF9.out.1, HF9.out.2.1⟩
          case measure => simp [intOf]; omega
    · obtain rfl : nn = j := by omega
      have d1 : decide ((nn : Int) < (nn : Int)) = false := by simp
      rw [HKF.out.1] at HFB
      rw [HKF.out.2]
      have HE := Lib.hid (key_eq kf kf HKL.out HKL.out)
      have HGK := Lib.hid (HLW.out.blk 0 rfl)
      have HFN := Lib.hid HLW.out.bel
      rw [HKK.out, decide_eq_true rfl] at HE
      clear HLW HBL
      cases okb with
      | true =>
        have dz : decide (mf ≥ 0) = true := HOK.out
        go_wp2_with (first | (refine wpList_load_obj_g (by rfl) 30 (.tmp 7) rfl gk 0 rfl (kf.map u8v) HGK.out.all _ Try.underlying30 rfl (key_cellsOf _ HKL.out) ?_; rw [HKK.out]) | (refine wpList_load_obj_g (by rfl) 30 (.tmp 10) rfl gz 0 rfl (kf.map u8v) HFB.out.all _ Try.underlying30 rfl (key_cellsOf _ HKL.out) ?_; rw [HKK.out]) | (refine wpList_eql_agg (by rfl) 30 30 53 54 rfl kk kk true rfl rfl key_noguard (HE.out _) ?_))
        refine (HBG.out _).mono ?_
        rintro e wv ⟨rfl, hb⟩
        have HFF := Lib.hid (HFN.out.trans (hb.mono HFN.out.size))
        clear hb
        go_wp2_with fail
        go_ret
        exact ⟨rfl, HFF.out⟩
      | false =>
        have dz : decide (mf ≥ 0) = false := HOK.out
        go_wp2_with (first | (refine wpList_load_obj_g (by rfl) 30 (.tmp 7) rfl gk 0 rfl (kf.map u8v) HGK.out.all _ Try.underlying30 rfl (key_cellsOf _ HKL.out) ?_; rw [HKK.out]) | (refine wpList_load_obj_g (by rfl) 30 (.tmp 10) rfl gz 0 rfl (kf.map u8v) HFB.out.all _ Try.underlying30 rfl (key_cellsOf _ HKL.out) ?_; rw [HKK.out]) | (refine wpList_eql_agg (by rfl) 30 30 53 54 rfl kk kk true rfl rfl key_noguard (HE.out _) ?_))
        refine (HBG.out _).mono ?_
        rintro e wv ⟨rfl, hb⟩
        have HFF := Lib.hid (HFN.out.trans (hb.mono HFN.out.size))
        clear hb
        go_wp2_with fail
        go_ret
        exact ⟨rfl, HFF.out⟩
end Go.Proofs.Ytnblofbbbkjhpaa
namespace Go.Proofs.Ytnblofbbbkjhpaa
open Go.RowKit

/-- what is asked of a predicate that is handed on, in every world in which what lies below B is as it was -/
def PredB (P : Program) (F : Nat) (lb : Array Value) (p : List Value → Bool) (B : Nat) (w : World) (os : List (List Value)) : Prop :=
  ∀ o ∈ os, ∀ W, Below B w W → Calls P F (#[.agg o.toArray] ++ lb) W fun e W' => e = .returned (.bool (p o)) ∧ Below W.heap.size W W'
def idxM (p : List Value → Bool) (os : List (List Value)) : Int := match os.findIdx? p with
  | none => -1
  | some i => (i : Int)
theorem idxM_none {p : List Value → Bool} {os : List (List Value)} (h : ∀ o ∈ os, p o = false) : idxM p os = -1 := by
  have e : os.findIdx? p = none := List.findIdx?_eq_none_iff.2 h
  unfold idxM
  rw [e]
theorem idxM_some {p : List Value → Bool} {os : List (List Value)} {j : Nat} {o : List Value} (ho : os[j]? = some o) (hp : p o = true) (hn : ∀ (q : Nat) x, q < j → os[q]? = some x → p x = false) : idxM p os = (j : Int) := by
  obtain ⟨hi, rfl⟩ := List.getElem?_eq_some_iff.1 ho
  have e : os.findIdx? p = some j := by
    rw [List.findIdx?_eq_some_iff_getElem]
    exact ⟨hi, hp, fun q hq => by simpa using hn q _ hq (List.getElem?_eq_getElem (by omega))⟩
  unfold idxM
  rw [e]
theorem all_false {p : List Value → Bool} {os : List (List Value)} {n : Nat} (hl : os.length = n) (h : ∀ (q : Nat) x, q < n → os[q]? = some x → p x = false) : ∀ o ∈ os, p o = false := by
  intro o ho
  obtain ⟨i, hi, rfl⟩ := List.getElem_of_mem ho
  exact h i _ (by omega) (List.getElem?_eq_getElem hi)
theorem one_flat {cs : List (List Value)} (h : ∀ o ∈ cs, ∀ v ∈ o, v.oneCell' = true) : ∀ v ∈ cs.flatten, v.oneCell' = true := fun v hv => by
  obtain ⟨o, ho, h2⟩ := List.mem_flatten.1 hv
  exact h o ho v h2
theorem own_sliceK {w : World} {base e k n : Nat} {v : Value} {xs : List Value} (h : w.ownsRow base e k v n xs) : ∃ A c, v = .slice A n c ∧ n ≤ c ∧ c ≤ maxLen ∧ ∀ ad, A = some ad → base ≤ ad.block := by
  rcases h.2 with ⟨rfl, rfl⟩ | ⟨g, cap, cur, rfl, hb, _, hn, hm, _⟩
  · exact ⟨none, 0, rfl, Nat.le_refl _, by unfold maxLen; omega, fun _ h => by cases h⟩
  · exact ⟨_, _, rfl, hn, hm, fun ad h => by injection h with h; subst h; exact hb⟩
end Go.Proofs.Ytnblofbbbkjhpaa
namespace Go.Proofs.Ytnblofbbbkjhpaa
open Go.RowKit

theorem rt_size (o : List Value) (h : o.length = 50) : (Try.prog.info? 37).map (·.size) = some o.length := by
  rw [h]; kernel_rfl
theorem rt_under : Try.prog.underlying 23 = some (.slice (Try.prog.elem 23)) := by kernel_rfl
theorem rt_elem : Try.prog.elem 23 = 37 := by kernel_rfl
theorem rt_sizeOf (w : World) : (sizeOf (Try.prog.elem 23)).run Try.prog w = .ok 50 w := by
  obtain ⟨i0, hi, _, hs, _⟩ := routeInfo
  rw [rt_elem]
  simp [sizeOf, typeInfo, hi, hs]
set_option maxRecDepth 100000 in
theorem rt_l (A : Option Addr) (n c i : Nat) (h2 : i ≤ n) (w : World) : (Instr.sliceAt 23 (.slice A n c) (some (.int .i64 (i : Int))) none none).run Try.prog w = .ok (.slice (addrK A i c 50) (n - i) (c - i)) w := by
  rw [run_sliceAt_slice (P := Try.prog) (w := w) 23 _ _ _ _ rt_under, run_slice_l (P := Try.prog) (w := w) 23 A n c rt_under .i64 i (by omega) (by omega), rt_sizeOf]
  simp only [Result.andThen, sliced, Int.toNat_natCast]
  rfl
set_option maxRecDepth 100000 in
theorem rt_h {n : Nat} (A : Option Addr) (c j : Nat) (h2 : j ≤ n) (h3 : n ≤ c) (w : World) : (Instr.sliceAt 23 (.slice A n c) none (some (.int .i64 (j : Int))) none).run Try.prog w = .ok (.slice (addrK A 0 c 50) j c) w := by
  rw [run_sliceAt_slice (P := Try.prog) (w := w) 23 _ _ _ _ rt_under, run_slice_h (P := Try.prog) (w := w) 23 A n c rt_under .i64 j (by omega) (by omega), rt_sizeOf]
  simp only [Result.andThen, sliced, Int.toNat_natCast, Nat.sub_zero]
  rfl
theorem addrK_zero_some (b off c k : Nat) : addrK (some ⟨b, off, none⟩) 0 c k = some ⟨b, off, none⟩ := by
  unfold addrK
  split
  · rfl
  · rw [Option.map_some, Go.WideShapes.add_plain, Nat.zero_mul, Nat.add_zero]
end Go.Proofs.Ytnblofbbbkjhpaa
namespace Go.Proofs.Ytnblofbbbkjhpaa
open Go.RowKit

set_option maxRecDepth 100000 in
set_option maxHeartbeats 16000000 in
theorem rtGrow_any (n : Nat) (hn : n ≤ 1000) (w : World) :
    Calls Try.prog 52 #[.slice none 0 0, .int .i64 (n : Int)] w fun e w' => ∃ v, e = .returned v ∧ w'.ownsRow w.heap.size 37 50 v 0 [] ∧ Below w.heap.size w w' := by
  obtain ⟨ik, hik, hiz, his, hib⟩ := routeInfo
  have HKI := Lib.hid (And.intro hik (And.intro hiz (And.intro his hib)))
  clear hik hiz his hib
  have q1 : IntKind.i64.wrap (n : Int) = (n : Int) := IntWalk.i64_in _ (by omega)
  rcases Nat.eq_zero_or_pos n with h0 | h0
  · subst h0
    go_enter Try.func52, Try.ntmps52
    go_wp2
    go_ret
    exact ⟨_, rfl, World.ownsRow_nil _ _ _ _, Below.refl _ _⟩
  · have d1 : decide ((n : Int) > 0) = true := by simp; omega
    have d2 : decide ((n : Int) < 0) = false := by simp
    have happ := Lib.run_append_nil_zeros (P := Try.prog) w 23 3 23 37 ik (.agg routeZ.toArray) .i64 .i64 Try.underlying23 Try.underlying3 HKI.out.1 HKI.out.2.1 n h0 (by rw [HKI.out.2.2.1]; omega) (by omega) (by rw [HKI.out.2.2.2]; omega)
    have hge := grownCap_ge w n 0 37
    have hcm := grownCap_le_maxLen w n 0 37 (by unfold maxLen; omega)
    obtain ⟨cp, hcp⟩ : ∃ z, grownCap w n 0 37 = z := ⟨_, rfl⟩
    rw [hcp] at happ hge hcm
    obtain ⟨cur, hcur⟩ : ∃ z, Builtin.zeroCells (Value.agg routeZ.toArray).cells n ++ Builtin.zeroCells (Value.agg routeZ.toArray).cells (cp - n) = z := ⟨_, rfl⟩
    have HS := Lib.hid (show cur.size = cp * 50 by
      rw [← hcur, Array.size_append, size_zeroCells, size_zeroCells, show (Value.agg routeZ.toArray).cells.size = 50 by rfl, ← Nat.add_mul]
      congr 1
      omega)
    rw [hcur] at happ
    have HA := Lib.hid happ
    have HC := Lib.hid hcm
    have hsl := rt_h (some ⟨w.heap.size, 0, none⟩) (n := n) cp 0 (Nat.zero_le _) hge
    rw [addrK_zero_some, show ((0 : Nat) : Int) = 0 from rfl] at hsl
    clear happ hge hcm hcp hcur
    go_enter Try.func52, Try.ntmps52
    go_wp2_with (at_builtin; refine Lib.wpList_append_run _ rfl _ _ _ _ rfl _ _ rfl rfl _ _ HA.out ?_)
    go_ret
    exact ⟨_, rfl, World.ownsRow_made w.drew cur cp (Nat.le_refl _) HC.out HS.out, (Below.refl _ _).drew.alloc (Nat.le_refl _) _⟩
end Go.Proofs.Ytnblofbbbkjhpaa
namespace Go.Proofs.Ytnblofbbbkjhpaa
open Go.RowKit

/-- slices of objects: where each lies, its length and capacity, and what it holds -/
abbrev RtPart := (Option Addr × Nat × Nat) × List (List Value)
def rtPartV (x : RtPart) : Value := .slice x.1.1 x.1.2.1 x.1.2.2
def rtLenP (ps : List RtPart) : Nat := (ps.map fun x => x.1.2.1).sum
theorem rtLenP_snoc {ps : List RtPart} {j : Nat} {x : RtPart} (h : ps[j]? = some x) : rtLenP (ps.take (j + 1)) = rtLenP (ps.take j) + x.1.2.1 := by
  rw [rtLenP, take_snoc h, List.map_append, List.sum_append]
  simp [rtLenP]
theorem rtLenP_take (ps : List RtPart) (j : Nat) : rtLenP (ps.take j) ≤ rtLenP ps := by
  have h := congrArg rtLenP (List.take_append_drop j ps)
  rw [rtLenP, List.map_append, List.sum_append] at h
  unfold rtLenP at *
  omega
theorem rtFlat_snoc {ps : List RtPart} {j : Nat} {x : RtPart} (h : ps[j]? = some x) : ((ps.take (j + 1)).flatMap (·.2)).flatten = ((ps.take j).flatMap (·.2)).flatten ++ x.2.flatten := by
  rw [take_snoc h, List.flatMap_append, List.flatten_append]
  simp
set_option maxRecDepth 100000 in
set_option maxHeartbeats 16000000 in
theorem rtConcat_any (b off q c : Nat) (ps : List RtPart) (hq : ps.length = q) (hq1 : q ≤ 1000) (hsum : rtLenP ps ≤ 1000) (w : World) (hlt : b < w.heap.size) (hat : At w b off (ps.map rtPartV)) (hps : ∀ x ∈ ps, RdRow w w.heap.size x.1.1 50 x.1.2.1 x.2 ∧ ∀ o ∈ x.2, ∀ v ∈ o, v.oneCell' = true) :
    Calls Try.prog 36 #[.slice (some ⟨b, off, none⟩) q c] w fun e w' => ∃ A' c', e = .returned (.slice A' (rtLenP ps) c') ∧ w'.ownsRow w.heap.size 37 50 (.slice A' (rtLenP ps) c') (rtLenP ps) (ps.flatMap (·.2)).flatten ∧ Below w.heap.size w w' := by
  have HAT := Lib.hid (show ∀ W, Below w.heap.size w W → At W b off (ps.map rtPartV) from fun W hW j v hv => (World.cell?_of_block (hW.block b hlt)).trans (hat j v hv))
  have HPS := Lib.hid hps
  have HQ := Lib.hid (And.intro hq hq1)
  have HSM := Lib.hid (show ∀ j, rtLenP (ps.take j) ≤ 1000 from fun j => Nat.le_trans (rtLenP_take ps j) hsum)
  obtain ⟨ik, hik, hiz, his, hib⟩ := routeInfo
  have HKI := Lib.hid (And.intro hik (And.intro hiz (And.intro his hib)))
  clear hik hiz his hib
  obtain ⟨tot, htot⟩ : ∃ z, rtLenP ps = z := ⟨_, rfl⟩
  rw [htot] at hsum
  have HGR := Lib.hid (rtGrow_any tot hsum)
  have HTOT := Lib.hid htot
  rw [htot]
  clear hat hps hq htot
  go_enter Try.func36, Try.ntmps36
  go_wp2_with fail
  go_loopw [11, 3] (fun vj vs wr => ∃ j s : Nat, j ≤ q ∧ vj = .int .i64 (j : Int) ∧ vs = .int .i64 (s : Int) ∧ rtLenP (ps.take j) = s ∧ Below w.heap.size w wr) (fun vj _ _ => q - (intOf vj).toNat)
  case atStart => exact ⟨0, 0, Nat.zero_le _, rfl, rfl, rfl, Below.refl _ _⟩
  case round =>
    obtain ⟨j, s, hj, rfl, rfl, hs, hbl⟩ := hrel
    have HBL := Lib.hid hbl
    have HS := Lib.hid hs
    clear hbl hs
    by_cases hjq : j < q
    · have d1 : decide ((j : Int) < (q : Int)) = true := by simp; omega
      obtain ⟨x, hx⟩ : ∃ x, ps[j]? = some x := ⟨ps[j]'(by rw [HQ.out.1]; exact hjq), List.getElem?_eq_getElem _⟩
      have hc := HAT.out wr HBL.out j (rtPartV x) (by rw [List.getElem?_map, hx]; rfl)
      have hsn := rtLenP_snoc hx
      rw [HS.out] at hsn
      obtain ⟨⟨Ax, nx, cx⟩, ox⟩ := x
      have hc' : wr.cell? ⟨b, off + j, none⟩ = some (.slice Ax nx cx) := hc
      have hb1 := HSM.out (j + 1)
      rw [hsn] at hb1
      have HSN := Lib.hid hsn
      clear hc hsn hx
      have hb2 : s + nx ≤ 1000 := hb1
      have d2 : decide ((s : Int) + (nx : Int) < 0) = false := by simp; omega
      clear hb1
      go_wp2_with fail
      go_roundw
      case rel => exact ⟨j + 1, s + nx, by omega, by go_num, by go_num, HSN.out, by assumption⟩
      case measure => simp [intOf]; omega
    · obtain rfl : q = j := by omega
      have d1 : decide ((q : Int) < (q : Int)) = false := by simp
      have hst : tot = s := by rw [← HTOT.out, ← HS.out, List.take_of_length_le (by rw [HQ.out.1]; exact Nat.le_refl _)]
      subst hst
      clear HS
      go_wp2_with fail
      refine (HGR.out _).mono ?_
      rintro e w2 ⟨v2, rfl, hown, hb⟩
      have HO := Lib.hid (And.intro (own_base hown HBL.out.size) (HBL.out.trans (hb.mono HBL.out.size)))
      clear hown hb HBL HGR
      go_wp2_with fail
      go_loopw [27, 6] (fun vj vo wr => ∃ j s : Nat, j ≤ q ∧ vj = .int .i64 (j : Int) ∧ rtLenP (ps.take j) = s ∧ wr.ownsRow w.heap.size 37 50 vo s ((ps.take j).flatMap (·.2)).flatten ∧ Below w.heap.size w wr) (fun vj _ _ => q - (intOf vj).toNat)
      case atStart => exact ⟨0, 0, Nat.zero_le _, rfl, rfl, HO.out.1, HO.out.2⟩
      case round =>
        clear HO
        obtain ⟨j, s, hj, rfl, hs, hown, hbl⟩ := hrel
        have HO := Lib.hid (And.intro hown hbl)
        have HS := Lib.hid hs
        clear hown hbl hs
        by_cases hjq : j < q
        · have d1 : decide ((j : Int) < (q : Int)) = true := by simp; omega
          obtain ⟨x, hx⟩ : ∃ x, ps[j]? = some x := ⟨ps[j]'(by rw [HQ.out.1]; exact hjq), List.getElem?_eq_getElem _⟩
          have hc := HAT.out _ HO.out.2 j (rtPartV x) (by rw [List.getElem?_map, hx]; rfl)
          have hsn := rtLenP_snoc hx
          rw [HS.out] at hsn
          have HFS := Lib.hid (rtFlat_snoc hx)
          have hpx := HPS.out x (List.mem_of_getElem? hx)
          obtain ⟨⟨Ax, nx, cx⟩, ox⟩ := x
          have hc' := hc
          simp only [rtPartV] at hc'
          have hb1 := HSM.out (j + 1)
          rw [hsn] at hb1
          have HSN := Lib.hid (And.intro hsn hb1)
          have HPX := Lib.hid (And.intro ((hpx.1.below HO.out.2).mono HO.out.2.size) (one_flat hpx.2))
          clear hc hsn hx hb1 hpx
          go_wp2_with (refine wpList_append_rows _ rfl (.tmp 31) (.tmp 32) 23 rfl w.heap.size 37 ik _ 50 64 Try.underlying23 HKI.out.1 HKI.out.2.1 HKI.out.2.2.1 HKI.out.2.2.2 (by rfl) (by omega) u6 s _ rfl HO.out.1 _ Ax nx cx ox rfl HPX.out.1 HPX.out.2 (by unfold maxLen; have := HSN.out.2; simp only at this; omega) (by have := HSN.out.2; simp only at this; omega) HO.out.2.size ?_; intro v6 w6 ho6 hg6 _)
          go_roundw
          case rel => exact ⟨j + 1, s + nx, by omega, by go_num, HSN.out.1, by rw [HFS.out]; exact ho6, HO.out.2.grown hg6 HO.out.2.size (own_from HO.out.1)⟩
          case measure => simp [intOf]; omega
        · obtain rfl : q = j := by omega
          have d1 : decide ((q : Int) < (q : Int)) = false := by simp
          have htk : ps.take q = ps := List.take_of_length_le (by rw [HQ.out.1]; exact Nat.le_refl _)
          have hst : s = tot := by rw [← HTOT.out, ← HS.out, htk]
          subst hst
          rw [htk] at HO
          obtain ⟨A9, c9, rfl, -, -, -⟩ := own_sliceK HO.out.1
          have HF := Lib.hid HO.out
          clear HO HS htk
          go_wp2
          go_ret
          exact ⟨A9, c9, rfl, HF.out.1, HF.out.2⟩
end Go.Proofs.Ytnblofbbbkjhpaa
namespace Go.Proofs.Ytnblofbbbkjhpaa
open Go.RowKit

set_option maxRecDepth 100000 in
set_option maxHeartbeats 8000000 in
theorem insPred_any (a : AddrM) (bits : Int) (hoa : a.ok) (hob : inI64 bits) (r : RouteM) (hr : r.ok) (G : Nat) (W : World) (hG : G < W.heap.size) (hat : At W G 0 (prefC a bits)) :
    Calls Try.prog 35 #[.agg r.cells.toArray, .pointer (some ⟨G, 0, none⟩)] W fun e W' => e = .returned (.bool (RouteM.is a bits r)) ∧ Below W.heap.size W W' := by
  have heq := pref_eqd r.a a r.bits bits hr.1 hoa hr.2.2 hob
  have HU := Lib.hid (pref_cellsOf' a hoa bits)
  have HR := Lib.hid hr
  obtain ⟨rc, hrc⟩ : ∃ z, r.cells.toArray = z := ⟨_, rfl⟩
  obtain ⟨fc, hfc⟩ : ∃ z, (prefC r.a r.bits).toArray = z := ⟨_, rfl⟩
  obtain ⟨pa, hpa⟩ : ∃ z, (prefC a bits).toArray = z := ⟨_, rfl⟩
  obtain ⟨y, hy⟩ : ∃ y, RouteM.is a bits r = y := ⟨_, rfl⟩
  have hy' : decide (r.a = a ∧ r.bits = bits) = y := hy
  rw [hfc, hpa, hy'] at heq
  rw [hrc, hy]
  have HEQ := Lib.hid heq
  have HFC := Lib.hid hfc
  have HPA := Lib.hid hpa
  have hb := (Below.refl W.heap.size W).alloc (Nat.le_refl _) (.cells rc 37)
  have HP := Lib.hid (show Blk (W.alloc (.cells rc 37)) W.heap.size 37 r.cells from by rw [← hrc]; exact Blk.new W 37 r.cells)
  have HAT := Lib.hid (show At (W.alloc (.cells rc 37)) G 0 (prefC a bits) from hat.mono hb hG)
  have HB := Lib.hid hb
  clear heq hr hat hrc hfc hpa hy hy' hb
  go_enter Try.func35, Try.ntmps35
  go_upto_region 1 with fail
  generalize W.alloc (.cells rc 37) = w1 at HP HAT HB ⊢
  generalize W.heap.size = P1 at HP ⊢
  go_wp2_with (first | (refine wpList_load_obj rfl 28 (.tmp 4) rfl P1 0 rfl (prefC r.a r.bits) (route_pref HP.out.all) _ Try.underlying28 rfl (pref_cellsOf' r.a HR.out.1 r.bits) ?_; rw [HFC.out]) | (refine wpList_load_obj rfl 28 (.tmp 1) rfl G 0 rfl (prefC a bits) HAT.out _ Try.underlying28 rfl HU.out ?_; rw [HPA.out]) | (refine wpList_eql_agg (by rfl) 28 28 5 6 rfl fc pa y rfl rfl prefix_noguard (HEQ.out _) ?_))
  go_ret
  exact ⟨rfl, HB.out⟩
/-- the predicate on cells: the first eighteen of them are those of a prefix -/
noncomputable def prefP (a : AddrM) (b : Int) (o : List Value) : Bool := @decide (o.take 18 = prefC a b) (Classical.propDecidable _)
theorem prefP_is {a : AddrM} {b : Int} (ha : a.ok) {r : RouteM} (hr : r.ok) : prefP a b r.cells = RouteM.is a b r := by
  unfold prefP RouteM.is
  rw [Bool.eq_iff_iff, @decide_eq_true_iff _ (Classical.propDecidable _), decide_eq_true_iff, RouteM.cells, List.take_left' (prefC_length r.a hr.1 _), prefC_inj hr.1 ha]
theorem rts_mem {l : List RouteM} (h : ∀ r ∈ l, r.ok) {o : List Value} (ho : o ∈ rtsV l) : ∃ r : RouteM, r.ok ∧ r.cells = o := by
  obtain ⟨r, hr, rfl⟩ := List.mem_map.1 ho
  exact ⟨r, h r hr, rfl⟩
theorem rts_one (l : List RouteM) : ∀ o ∈ rtsV l, ∀ v ∈ o, v.oneCell' = true := fun o ho v hv => by
  obtain ⟨r, _, rfl⟩ := List.mem_map.1 ho
  exact route_one r v hv
end Go.Proofs.Ytnblofbbbkjhpaa
namespace Go.Proofs.Ytnblofbbbkjhpaa
open Go.RowKit

theorem RdRow.ahead {W : World} {B k n : Nat} {A : Option Addr} {os : List (List Value)} (h : RdRow W B A k n os) (i c : Nat) (hi : i ≤ n) : RdRow W B (addrK A 0 c k) k i (os.take i) := by
  rcases Nat.eq_zero_or_pos i with h0 | h0
  · subst h0
    rw [List.take_zero]
    exact RdRow.nil
  · obtain ⟨b, off, rfl⟩ := h.addr (by omega)
    rw [addrK_zero_some]
    exact h.take i hi
def catV (A : Option Addr) (n c i j g1 : Nat) : List Value := [.slice (addrK A 0 c 50) i c, .slice (some ⟨g1, 0, none⟩) 1 1, .slice (addrK A j c 50) (n - j) (c - j)]
theorem cat_any (A : Option Addr) (n c i j : Nat) (l : List RouteM) (r : RouteM) (hn : n ≤ 100) (hnc : n ≤ c) (hi : i ≤ n) (hj : j ≤ n) (hok : r.ok) (g1 g2 : Nat) (t2 : TypeId) (W : World) (hr : RtRd W W.heap.size A n l) (h1 : Blk W g1 37 r.cells) (h2 : Blk W g2 t2 (catV A n c i j g1)) :
    Calls Try.prog 36 #[.slice (some ⟨g2, 0, none⟩) 3 3] W fun e w' => ∃ A' c', e = .returned (.slice A' (i + (1 + (n - j))) c') ∧ RtRd w' w'.heap.size A' (i + (1 + (n - j))) (l.take i ++ r :: l.drop j) ∧ (i + (1 + (n - j)) ≤ c' ∧ c' ≤ maxLen) ∧ Below W.heap.size W w' := by
  have hl := hr.len
  have hlen : rtLenP [((addrK A 0 c 50, i, c), rtsV (l.take i)), ((some ⟨g1, 0, none⟩, 1, 1), [r.cells]), ((addrK A j c 50, n - j, c - j), rtsV (l.drop j))] = i + (1 + (n - j)) := rfl
  have h := rtConcat_any g2 0 3 3 [((addrK A 0 c 50, i, c), rtsV (l.take i)), ((some ⟨g1, 0, none⟩, 1, 1), [r.cells]), ((addrK A j c 50, n - j, c - j), rtsV (l.drop j))] rfl (by omega) (by rw [hlen]; omega) W h2.lt h2.all (by
    intro x hx
    simp only [List.mem_cons, List.not_mem_nil, or_false] at hx
    rcases hx with rfl | rfl | rfl
    · exact ⟨by rw [← rtsV_take]; exact hr.1.ahead i c hi, rts_one _⟩
    · refine ⟨⟨rfl, fun o ho => ?_, fun _ => ⟨g1, 0, rfl, h1.lt, fun q v hq => ?_⟩⟩, fun o ho => ?_⟩
      · rw [List.mem_singleton] at ho; subst ho; exact RouteM.cells_length hok
      · rw [Nat.zero_add, h1.cell]; simpa using hq
      · rw [List.mem_singleton] at ho; subst ho; exact route_one r
    · exact ⟨by rw [← rtsV_drop]; exact hr.1.behind j c hj hnc, rts_one _⟩)
  rw [hlen] at h
  refine h.mono ?_
  rintro e w' ⟨A', c', rfl, ho, hb⟩
  obtain ⟨A9, c9, hv, hc1, hc2, -⟩ := own_sliceK ho
  injection hv with _ _ hc
  subst hc
  refine ⟨A', c', rfl, RtRd.of_own ?_ ?_ (show w'.ownsRow W.heap.size 37 50 (.slice A' (i + (1 + (n - j))) c') (i + (1 + (n - j))) (rtsV (l.take i ++ r :: l.drop j)).flatten from ?_), ⟨hc1, hc2⟩, hb⟩
  · rw [List.length_append, List.length_cons, List.length_take, List.length_drop, hl]; omega
  · intro q hq
    rcases List.mem_append.1 hq with hq | hq
    · exact hr.2 q (List.mem_of_mem_take hq)
    · rcases List.mem_cons.1 hq with rfl | hq
      · exact hok
      · exact hr.2 q (List.mem_of_mem_drop hq)
  · have e : ([((addrK A 0 c 50, i, c), rtsV (l.take i)), ((some ⟨g1, 0, none⟩, 1, 1), [r.cells]), ((addrK A j c 50, n - j, c - j), rtsV (l.drop j))] : List RtPart).flatMap (·.2) = rtsV (l.take i ++ r :: l.drop j) := by simp [rtsV]
    rw [← e]
    exact ho
theorem idxM_pref {l : List RouteM} (h : ∀ r ∈ l, r.ok) {a : AddrM} (ha : a.ok) (b : Int) : idxM (prefP a b) (rtsV l) = match findM a b l with
    | none => -1
    | some i => (i : Int) := by
  have e : (rtsV l).findIdx? (prefP a b) = findM a b l := by
    rw [rtsV, List.findIdx?_map, findM]
    have key : ∀ m : List RouteM, (∀ r ∈ m, r.ok) → m.findIdx? (prefP a b ∘ RouteM.cells) = m.findIdx? (RouteM.is a b) := by
      intro m
      induction m with
      | nil => intro _; rfl
      | cons x m ih =>
        intro hm
        rw [List.findIdx?_cons, List.findIdx?_cons, ih (fun r hr => hm r (List.mem_cons_of_mem _ hr))]
        simp only [Function.comp_apply, prefP_is ha (hm x (List.mem_cons_self ..))]
    exact key l h
  unfold idxM
  rw [e]
  all_goals (cases findM a b l <;> rfl)
end Go.Proofs.Ytnblofbbbkjhpaa
namespace Go.Proofs.Ytnblofbbbkjhpaa
open Go.RowKit

/-- a byte without the bits behind the first m -/
def cutByte (x : UInt8) (m : Nat) : UInt8 := x &&& ~~~(UInt8.ofNat (255 / 2 ^ m))
theorem cut_all : ∀ m : Fin 8, ∀ n : Fin 256, bits BinOp.andNot IntKind.u8 (n.val : Int) ((255 / 2 ^ m.val : Nat) : Int) = ((cutByte (UInt8.ofNat n.val) m.val).toNat : Int) := by decide +kernel
theorem cut_bits (x : UInt8) (m : Nat) (h : m < 8) : bits BinOp.andNot IntKind.u8 (x.toNat : Int) (255 / 2 ^ m) = ((cutByte x m).toNat : Int) := by
  have h1 := cut_all ⟨m, h⟩ ⟨x.toNat, x.toNat_lt⟩
  simp only [UInt8.ofNat_toNat] at h1
  rw [← h1, Int.natCast_ediv, Int.natCast_pow]
  rfl
theorem bit_cut_all : ∀ m : Fin 8, ∀ k : Fin 8, ∀ x : Fin 256, (cutByte (UInt8.ofNat x.val) m.val).toNat / 2 ^ (7 - k.val) % 2 = if k.val < m.val then x.val / 2 ^ (7 - k.val) % 2 else 0 := by decide +kernel
theorem bit_cut (x : UInt8) (m k : Nat) (hm : m < 8) (hk : k < 8) : (cutByte x m).toNat / 2 ^ (7 - k) % 2 = if k < m then x.toNat / 2 ^ (7 - k) % 2 else 0 := by
  have h := bit_cut_all ⟨m, hm⟩ ⟨k, hk⟩ ⟨x.toNat, x.toNat_lt⟩
  simp only [UInt8.ofNat_toNat] at h
  exact h
/-- an address without the bits behind the first k -/
def firstM (a : AddrM) (k : Nat) : AddrM := if k / 8 < 16 then ⟨a.six, (a.ip.set (k / 8) (cutByte (a.ip.getD (k / 8) 0) (k % 8))).take (k / 8 + 1) ++ List.replicate (15 - k / 8) 0⟩ else a
theorem firstM_ok (a : AddrM) (h : a.ok) (k : Nat) : (firstM a k).ok := by
  unfold firstM
  split
  · simp only [AddrM.ok, List.length_append, List.length_take, List.length_set, List.length_replicate]
    have : a.ip.length = 16 := h
    omega
  · exact h
theorem firstM_six (a : AddrM) (k : Nat) : (firstM a k).six = a.six := by unfold firstM; split <;> rfl
theorem firstM_bit (a : AddrM) (h : a.ok) (k i : Nat) (hi : i < 128) : bitM (firstM a k).ip i = if i < k then bitM a.ip i else 0 := by
  have hl : a.ip.length = 16 := h
  unfold firstM
  by_cases hk : k / 8 < 16
  · rw [if_pos hk]
    unfold bitM
    dsimp only
    rw [List.getD_eq_getElem?_getD, List.getElem?_append, List.length_take, List.length_set, List.getElem?_take]
    by_cases h1 : i / 8 < k / 8
    · rw [if_pos (by omega), if_pos (by omega), List.getElem?_set_ne (by omega), if_pos (by omega), ← List.getD_eq_getElem?_getD]
    · by_cases h2 : i / 8 = k / 8
      · rw [if_pos (by omega), if_pos (by omega), h2, List.getElem?_set_self (by omega), Option.getD_some, bit_cut _ _ _ (by omega) (by omega)]
        by_cases h3 : i % 8 < k % 8
        · rw [if_pos h3, if_pos (by omega)]
        · rw [if_neg h3, if_neg (by omega)]
      · rw [if_neg (by omega), if_neg (by omega), List.getElem?_replicate]
        split <;> simp
  · rw [if_neg hk, if_pos (by omega)]
/-- bytes whose bits are the same are the same -/
theorem byte_sum : ∀ x : Fin 256, x.val = 128 * (x.val / 2 ^ (7 - 0) % 2) + 64 * (x.val / 2 ^ (7 - 1) % 2) + 32 * (x.val / 2 ^ (7 - 2) % 2) + 16 * (x.val / 2 ^ (7 - 3) % 2) + 8 * (x.val / 2 ^ (7 - 4) % 2) + 4 * (x.val / 2 ^ (7 - 5) % 2) + 2 * (x.val / 2 ^ (7 - 6) % 2) + x.val / 2 ^ (7 - 7) % 2 := by decide +kernel
theorem byte_bits (x y : UInt8) (h : ∀ k, k < 8 → x.toNat / 2 ^ (7 - k) % 2 = y.toNat / 2 ^ (7 - k) % 2) : x = y := by
  have hx := byte_sum ⟨x.toNat, x.toNat_lt⟩
  have hy := byte_sum ⟨y.toNat, y.toNat_lt⟩
  simp only [] at hx hy
  rw [h 0 (by omega), h 1 (by omega), h 2 (by omega), h 3 (by omega), h 4 (by omega), h 5 (by omega), h 6 (by omega), h 7 (by omega), ← hy] at hx
  exact UInt8.toNat.inj hx
theorem ip_bits (l m : List UInt8) (hl : l.length = 16) (hm : m.length = 16) (h : ∀ i, i < 128 → bitM l i = bitM m i) : l = m := by
  apply List.ext_getElem (by omega)
  intro j h1 h2
  refine byte_bits _ _ (fun k hk => ?_)
  have := h (8 * j + k) (by omega)
  unfold bitM at this
  rw [show (8 * j + k) / 8 = j by omega, show (8 * j + k) % 8 = k by omega, List.getD_eq_getElem?_getD, List.getElem?_eq_getElem h1, List.getD_eq_getElem?_getD, List.getElem?_eq_getElem h2] at this
  exact this
theorem AddrM.ext_bits (a b : AddrM) (ha : a.ok) (hb : b.ok) (h6 : a.six = b.six) (h : ∀ i, i < 128 → bitM a.ip i = bitM b.ip i) : a = b := by
  have hi := ip_bits _ _ ha hb h
  cases a; cases b
  simp_all
theorem firstM_eq (a b : AddrM) (ha : a.ok) (hb : b.ok) (k : Nat) : firstM a k = b ↔ a.six = b.six ∧ ∀ i, i < 128 → (if i < k then bitM a.ip i else 0) = bitM b.ip i := by
  constructor
  · rintro rfl
    exact ⟨(firstM_six a k).symm, fun i hi => (firstM_bit a ha k i hi).symm⟩
  · rintro ⟨h6, h⟩
    exact AddrM.ext_bits _ _ (firstM_ok a ha k) hb ((firstM_six a k).trans h6) (fun i hi => (firstM_bit a ha k i hi).trans (h i hi))
theorem cells_inj (a b : AddrM) (h : a.cells = b.cells) : a = b := by
  cases a; cases b
  simp only [AddrM.cells, List.cons.injEq] at h
  obtain ⟨h1, h2⟩ := h
  injection h1 with h1
  subst h1
  congr 1
  refine List.map_inj_right ?_ |>.1 h2
  intro x y hxy
  have : ((x.toNat : Nat) : Int) = (y.toNat : Int) := by simpa [u8v] using hxy
  exact UInt8.toNat.inj (by omega)
/-- the bytes of IPv4 behind the fourth are zero exactly if the bits behind the 32nd are -/
theorem sound_first (a : AddrM) (h : a.ok) : soundM a = decide (firstM a (widthM a) = a) := by
  rw [Bool.eq_iff_iff, decide_eq_true_iff, firstM_eq a a h h]
  cases h6 : a.six with
  | true =>
    rw [soundM, h6, widthM, h6]
    simp only [Bool.true_or, true_and, true_iff, if_true]
    intro i hi
    rw [if_pos hi]
  | false =>
    rw [soundM_four a h h6, widthM, h6]
    simp only [true_and]
    constructor
    · intro hz i hi
      by_cases hlt : i < 32
      · rw [if_pos (by simpa using hlt)]
      · rw [if_neg (by simpa using hlt)]
        have := hz (i / 8 - 4) (by omega)
        rw [show 4 + (i / 8 - 4) = i / 8 by omega] at this
        rw [bitM, this]
        simp
    · intro hz j hj
      refine byte_bits _ _ (fun k hk => ?_)
      have := hz (8 * (4 + j) + k) (by omega)
      rw [if_neg (by simp; omega)] at this
      unfold bitM at this
      rw [show (8 * (4 + j) + k) / 8 = 4 + j by omega, show (8 * (4 + j) + k) % 8 = k by omega] at this
      rw [← this]
      simp
theorem valid_first (a : AddrM) (h : a.ok) (bits : Int) : validM a bits = (decide (0 ≤ bits) && (decide (bits ≤ (widthM a : Int)) && decide (firstM a bits.toNat = a))) := by
  by_cases h0 : 0 ≤ bits
  · by_cases h1 : bits ≤ (widthM a : Int)
    · rw [decide_eq_true h0, decide_eq_true h1, Bool.true_and, Bool.true_and, Bool.eq_iff_iff, decide_eq_true_iff, firstM_eq a a h h]
      constructor
      · intro hv
        have hs : soundM a = true := by rw [validM] at hv; exact (Bool.and_eq_true _ _ ▸ hv).1
        rw [validM_iff a bits hs h0 h1] at hv
        refine ⟨rfl, fun i hi => ?_⟩
        by_cases hlt : i < bits.toNat
        · rw [if_pos hlt]
        · rw [if_neg hlt, hv i (by omega) hi]
      · rintro ⟨_, hv⟩
        have hs : soundM a = true := by
          rw [sound_first a h, decide_eq_true_iff, firstM_eq a a h h]
          refine ⟨rfl, fun i hi => ?_⟩
          by_cases hlt : i < widthM a
          · rw [if_pos hlt]
          · have := hv i hi
            rw [if_neg (by omega)] at this
            rw [if_neg hlt, this]
        rw [validM_iff a bits hs h0 h1]
        intro i hb hi
        have := hv i hi
        rw [if_neg (by omega)] at this
        exact this.symm
    · rw [decide_eq_true h0, decide_eq_false h1, validM, decide_eq_true h0, decide_eq_false h1]
      simp
  · rw [decide_eq_false h0, validM, decide_eq_false h0]
    simp
theorem contains_first (a x : AddrM) (h : a.ok) (hx : x.ok) (bits : Int) : containsM a bits x = (validM a bits && (soundM x && decide (firstM x bits.toNat = a))) := by
  by_cases hv : validM a bits = true
  · by_cases hs : soundM x = true
    · rw [hv, hs, Bool.true_and, Bool.true_and]
      have hv2 := hv
      rw [valid_first a h, Bool.and_eq_true, Bool.and_eq_true, decide_eq_true_iff, decide_eq_true_iff, decide_eq_true_iff, firstM_eq a a h h] at hv2
      obtain ⟨h0, h1, _, h2⟩ := hv2
      by_cases h6 : x.six = a.six
      · rw [Bool.eq_iff_iff, containsM_iff a x bits hv hs (by rw [h6]; simp), decide_eq_true_iff, firstM_eq x a hx h]
        constructor
        · intro hc
          refine ⟨h6, fun i hi => ?_⟩
          by_cases hlt : i < bits.toNat
          · rw [if_pos hlt, hc i (by omega) hi]
          · have := h2 i hi
            rw [if_neg hlt] at this
            rw [if_neg hlt, this]
        · rintro ⟨_, hc⟩ i hb hi
          have := hc i hi
          rw [if_pos (by omega)] at this
          exact this
      · rw [containsM, hv, hs, show (x.six == a.six) = false by simpa using h6]
        simp only [Bool.true_and, Bool.false_and]
        refine (decide_eq_false fun e => h6 ?_).symm
        rw [← e, firstM_six]
    · rw [Bool.not_eq_true] at hs
      rw [hs, containsM, hs]
      simp
  · rw [Bool.not_eq_true] at hv
    rw [hv, containsM, hv]
    simp
end Go.Proofs.Ytnblofbbbkjhpaa
