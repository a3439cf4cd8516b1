/-
  The contract of the reference's inverse: the power 2^255 - 21.
-/
import Derived.Test.YtgdgecehmnokdaaCuTimes
namespace Go.Proofs.Ytgdgecehmnokdaa
open Go.RowKit

/-- digits that a product takes -/
def Fit (r : List Int) : Prop := r.length = 16 ∧ Within 262144 r
theorem Good.small {r : List Int} (h : Cu.Good r) : Within 65573 r := by
  intro x hx
  obtain ⟨i, hi, rfl⟩ := List.mem_iff_getElem.1 hx
  obtain ⟨hl, h0, h1, h2⟩ := h
  have e : r.getD i 0 = r[i] := by rw [List.getD_eq_getElem?_getD, List.getElem?_eq_getElem hi]; rfl
  rw [← e]
  rcases Nat.eq_zero_or_pos i with h | h
  · subst h; omega
  · have := h2 i h (by omega); omega
theorem Good.fit {r : List Int} (h : Cu.Good r) : Fit r := ⟨h.1, (Good.small h).mono (by omega)⟩
/-- the exponent behind n rounds -/
def cuE : Nat → Nat
  | 0 => 1
  | n + 1 => 2 * cuE n + (if 253 - n = 2 ∨ 253 - n = 4 then 0 else 1)
theorem cuE_end : cuE 254 = Cu.P25 - 2 := by decide +kernel
theorem fpow_two (x : Cu.Fq) (k : Nat) : Cu.fpow x (2 * k) = Cu.fpow x k * Cu.fpow x k := by
  induction k with
  | zero => show (1 : Cu.Fq) = 1 * 1; rw [Cu.fone_mul]
  | succ k ih =>
    rw [show 2 * (k + 1) = 2 * k + 1 + 1 by omega, Cu.fpow_succ, Cu.fpow_succ, ih, Cu.fpow_succ]
    generalize Cu.fpow x k = p
    clear ih
    grind
theorem fpow_odd (x : Cu.Fq) (k : Nat) : Cu.fpow x (2 * k + 1) = Cu.fpow x k * Cu.fpow x k * x := by rw [Cu.fpow_succ, fpow_two]

set_option maxRecDepth 100000 in
set_option maxHeartbeats 4000000 in
theorem refInverse_any (a : List Int) (ha : Fit a) (w : World) :
    Calls Try.prog 24 #[.agg (a.map i64v).toArray] w fun e w' => ∃ r, Fit r ∧ Cu.fq (Cu.valL r) = Cu.finv (Cu.fq (Cu.valL a)) ∧ e = .returned (.agg (r.map i64v).toArray) ∧ Below w.heap.size w w' := by
  obtain ⟨ca, hca⟩ : ∃ c, (a.map i64v).toArray = c := ⟨_, rfl⟩
  rw [hca]
  have HC := Lib.hid hca
  have HL := Lib.hid ha
  have HM := Lib.hid (show Mem w [blkE (w.heap.size + 1) 38 (zd 16), blkE w.heap.size 38 (a.map i64v)] ((w.alloc (.cells ca 38)).alloc (.cells #[.int .i64 0, .int .i64 0, .int .i64 0, .int .i64 0, .int .i64 0, .int .i64 0, .int .i64 0, .int .i64 0, .int .i64 0, .int .i64 0, .int .i64 0, .int .i64 0, .int .i64 0, .int .i64 0, .int .i64 0, .int .i64 0] 38)) from ((Mem.nil w).alloc rfl 38 ca (a.map i64v) hca.symm).alloc (by simp) 38 #[.int .i64 0, .int .i64 0, .int .i64 0, .int .i64 0, .int .i64 0, .int .i64 0, .int .i64 0, .int .i64 0, .int .i64 0, .int .i64 0, .int .i64 0, .int .i64 0, .int .i64 0, .int .i64 0, .int .i64 0, .int .i64 0] (zd 16) rfl)
  clear ha hca
  go_enter Try.func24, Try.ntmps24
  go_upto_region 1 with fail
  generalize ((w.alloc (.cells ca 38)).alloc (.cells #[.int .i64 0, .int .i64 0, .int .i64 0, .int .i64 0, .int .i64 0, .int .i64 0, .int .i64 0, .int .i64 0, .int .i64 0, .int .i64 0, .int .i64 0, .int .i64 0, .int .i64 0, .int .i64 0, .int .i64 0, .int .i64 0] 38)) = w1 at HM ⊢
  have HA := Lib.hid (show Mem w [blkE w1.heap.size 38 (zd 16), blkE (w.heap.size + 1) 38 (zd 16), blkE w.heap.size 38 (a.map i64v)] (w1.alloc (.cells #[.int .i64 0, .int .i64 0, .int .i64 0, .int .i64 0, .int .i64 0, .int .i64 0, .int .i64 0, .int .i64 0, .int .i64 0, .int .i64 0, .int .i64 0, .int .i64 0, .int .i64 0, .int .i64 0, .int .i64 0, .int .i64 0] 38)) from HM.out.alloc rfl 38 #[.int .i64 0, .int .i64 0, .int .i64 0, .int .i64 0, .int .i64 0, .int .i64 0, .int .i64 0, .int .i64 0, .int .i64 0, .int .i64 0, .int .i64 0, .int .i64 0, .int .i64 0, .int .i64 0, .int .i64 0, .int .i64 0] (zd 16) rfl)
  go_upto_region 2 with (first | (refine wpList_load_blk rfl 38 (.tmp 1) rfl w.heap.size rfl 38 (a.map i64v) (HM.out.blk 1 rfl) 16 2 Try.underlying38 (cu_cells a HL.out.1) ?_; rw [HC.out]) | (refine wpList_store_blk rfl 38 (.tmp 3) (.tmp 5) rfl w1.heap.size (a.map i64v) rfl (by show Value.agg ca = _; rw [HC.out]) 38 (zd 16) (HA.out.blk 0 rfl) (cu_cells a HL.out.1) (by rw [List.length_map, HL.out.1]; rfl) (i64v_one _) ?_; intro w2 hb9 hg9))
  (try simp only [Act.put])
  replace HM := Lib.hid (show Mem w [blkE w1.heap.size 38 ((a).map i64v), blkE (w.heap.size + 1) 38 (zd 16), blkE w.heap.size 38 (a.map i64v)] w2 from HA.out.put 0 rfl _ hg9 hb9)
  clear HA hb9 hg9
  generalize w1.heap.size = Q at HM ⊢
  go_wp2_with fail
  go_loopw [4] (fun i wr => ∃ n : Nat, n ≤ 254 ∧ i = .int .i64 (253 - (n : Int)) ∧ ∃ o, Fit o ∧ Cu.fq (Cu.valL o) = Cu.fpow (Cu.fq (Cu.valL a)) (cuE n) ∧ Mem w [blkE Q 38 ((o).map i64v), blkE (w.heap.size + 1) 38 (zd 16), blkE w.heap.size 38 (a.map i64v)] wr) (fun i _ => (intOf i + 1).toNat)
  case atStart => exact ⟨0, by omega, rfl, a, HL.out, by show _ = Cu.fpow _ 1; rw [Cu.fpow_succ]; show _ = 1 * _; rw [Cu.fone_mul], HM.out⟩
  case round =>
    clear HM
    obtain ⟨n, hn, rfl, o, ho, vo, hM⟩ := hrel
    have HM := Lib.hid hM
    clear hM
    obtain ⟨co, hco⟩ : ∃ c, (o.map i64v).toArray = c := ⟨_, rfl⟩
    have HO := Lib.hid (And.intro ho (And.intro vo hco))
    by_cases hlt : n < 254
    · have d1 : decide ((253 : Int) - (n : Int) ≥ 0) = true := by simp; omega
      have TC := fun W : World => refTimes_any o o ho.1 ho.1 ho.2 ho.2 W
      rw [hco] at TC
      have HTC := Lib.hid TC
      clear TC ho vo hco
      go_wp2_with (refine wpList_load_blk rfl 38 (.tmp 3) rfl Q rfl 38 (o.map i64v) (HM.out.blk 0 rfl) 16 2 Try.underlying38 (cu_cells o HO.out.1.1) ?_; rw [HO.out.2.2])
      refine (HTC.out _).mono ?_
      rintro e w3 ⟨r, hr, vr, rfl, hb⟩
      replace HM := Lib.hid (show Mem w [blkE Q 38 ((o).map i64v), blkE (w.heap.size + 1) 38 (zd 16), blkE w.heap.size 38 (a.map i64v)] w3 from HM.out.below hb)
      obtain ⟨cr, hcr⟩ : ∃ c, (r.map i64v).toArray = c := ⟨_, rfl⟩
      rw [hcr]
      have hrf := Good.fit hr
      have HR := Lib.hid (And.intro hrf (And.intro vr hcr))
      have TC2 := fun W : World => refTimes_any r a hrf.1 HL.out.1 hrf.2 HL.out.2 W
      rw [hcr, HC.out] at TC2
      have HTC2 := Lib.hid TC2
      clear TC2 hr vr hcr hrf hb HTC
      go_upto_region 6 with (refine wpList_store_blk rfl 38 (.tmp 3) (.tmp 12) rfl Q (r.map i64v) rfl (by show Value.agg cr = _; rw [HR.out.2.2]) 38 (o.map i64v) (HM.out.blk 0 rfl) (cu_cells r HR.out.1.1) (by rw [List.length_map, List.length_map, HR.out.1.1, HO.out.1.1]) (i64v_one _) ?_; intro w4 hb9 hg9)
      (try simp only [Act.put])
      replace HM := Lib.hid (show Mem w [blkE Q 38 ((r).map i64v), blkE (w.heap.size + 1) 38 (zd 16), blkE w.heap.size 38 (a.map i64v)] w4 from HM.out.put 0 rfl _ hg9 hb9)
      clear hb9 hg9
      have hv : Cu.fq (Cu.valL r) = Cu.fpow (Cu.fq (Cu.valL a)) (2 * cuE n) := by rw [HR.out.2.1, HO.out.2.1, fpow_two]
      by_cases h24 : 253 - n = 2 ∨ 253 - n = 4
      · have hE : cuE (n + 1) = 2 * cuE n := by rw [cuE, if_pos h24]; rfl
        rw [← hE] at hv
        have HV := Lib.hid hv
        clear hv hE HTC2 HO
        rcases h24 with h24 | h24
        · obtain rfl : n = 251 := by omega
          go_wp2_with fail
          go_roundw
          case rel => exact ⟨252, by omega, by rfl, r, HR.out.1, HV.out, HM.out⟩
          case measure => simp [intOf]
        · obtain rfl : n = 249 := by omega
          go_wp2_with fail
          go_roundw
          case rel => exact ⟨250, by omega, by rfl, r, HR.out.1, HV.out, HM.out⟩
          case measure => simp [intOf]
      · have hE : cuE (n + 1) = 2 * cuE n + 1 := by rw [cuE, if_neg h24]
        have hne2 : ((253 : Int) - (n : Int) != 2) = true := by simp; omega
        have hne4 : ((253 : Int) - (n : Int) != 4) = true := by simp; omega
        have e1 : IntKind.i64.wrap (253 - (n : Int) - 1) = 253 - ((n + 1 : Nat) : Int) := by rw [IntWalk.i64_in _ (by omega)]; omega
        have e2 : (253 : Int) - (n : Int) - 1 = 253 - ((n + 1 : Nat) : Int) := by omega
        go_wp2_with (first | (refine wpList_load_blk rfl 38 (.tmp 3) rfl Q rfl 38 (r.map i64v) (HM.out.blk 0 rfl) 16 2 Try.underlying38 (cu_cells r HR.out.1.1) ?_; rw [HR.out.2.2]) | (refine wpList_load_blk rfl 38 (.tmp 1) rfl w.heap.size rfl 38 (a.map i64v) (HM.out.blk 2 rfl) 16 2 Try.underlying38 (cu_cells a HL.out.1) ?_; rw [HC.out]))
        refine (HTC2.out _).mono ?_
        rintro e w5 ⟨r2, hr2, vr2, rfl, hb⟩
        replace HM := Lib.hid (show Mem w [blkE Q 38 ((r).map i64v), blkE (w.heap.size + 1) 38 (zd 16), blkE w.heap.size 38 (a.map i64v)] w5 from HM.out.below hb)
        obtain ⟨cr2, hcr2⟩ : ∃ c, (r2.map i64v).toArray = c := ⟨_, rfl⟩
        rw [hcr2]
        have hv2 : Cu.fq (Cu.valL r2) = Cu.fpow (Cu.fq (Cu.valL a)) (cuE (n + 1)) := by rw [vr2, hv, hE, ← Cu.fpow_succ]
        have HR2 := Lib.hid (And.intro (Good.fit hr2) (And.intro hv2 hcr2))
        clear hr2 vr2 hcr2 hv2 hv hE hb HTC2 HO
        go_upto_region 4 with (refine wpList_store_blk rfl 38 (.tmp 3) (.tmp 21) rfl Q (r2.map i64v) rfl (by show Value.agg cr2 = _; rw [HR2.out.2.2]) 38 (r.map i64v) (HM.out.blk 0 rfl) (cu_cells r2 HR2.out.1.1) (by rw [List.length_map, List.length_map, HR2.out.1.1, HR.out.1.1]) (i64v_one _) ?_; intro w6 hb9 hg9)
        (try simp only [Act.put])
        replace HM := Lib.hid (show Mem w [blkE Q 38 ((r2).map i64v), blkE (w.heap.size + 1) 38 (zd 16), blkE w.heap.size 38 (a.map i64v)] w6 from HM.out.put 0 rfl _ hg9 hb9)
        clear hb9 hg9
        go_wp2_with fail
        go_roundw
        case rel => exact ⟨n + 1, by omega, by first | (rw [e1]) | (rw [e2]) | go_num, r2, HR2.out.1, HR2.out.2.1, HM.out⟩
        case measure => simp [intOf]; omega
    · obtain rfl : n = 254 := by omega
      have d1 : decide ((253 : Int) - ((254 : Nat) : Int) ≥ 0) = false := by decide
      clear ho vo hco
      have HF := Lib.hid (show Cu.fq (Cu.valL o) = Cu.finv (Cu.fq (Cu.valL a)) by rw [HO.out.2.1, cuE_end, Cu.finv_eq])
      go_wp2_with (first | (refine wpList_load_blk rfl 38 (.tmp 3) rfl Q rfl 38 (o.map i64v) (HM.out.blk 0 rfl) 16 2 Try.underlying38 (cu_cells o HO.out.1.1) ?_; rw [HO.out.2.2]) | (refine wpList_store_blk rfl 38 (.tmp 2) (.tmp 22) rfl (w.heap.size + 1) (o.map i64v) rfl (by show Value.agg co = _; rw [HO.out.2.2]) 38 (zd 16) (HM.out.blk 1 rfl) (cu_cells o HO.out.1.1) (by rw [List.length_map, HO.out.1.1]; rfl) (i64v_one _) ?_; intro w9 hb9 hg9))
      exact bodyPost_ret (results_blk rfl _ _ (w.heap.size + 1) 38 (o.map i64v) 16 2 rfl hb9 Try.underlying38 (cu_cells o HO.out.1.1)) rfl ⟨o, HO.out.1, HF.out, rfl, (HM.out.put 1 rfl _ hg9 hb9).bel⟩
end Go.Proofs.Ytgdgecehmnokdaa
