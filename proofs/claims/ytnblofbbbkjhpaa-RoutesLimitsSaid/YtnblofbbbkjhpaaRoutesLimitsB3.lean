/-
  The contracts of inner's address, validAddress, Valid, Contains and Less. The mathematics of time stamps over lists of bytes; no function of the program is named here. The contract of bytes.Compare for two rows of bytes. The contract of inner's Less. The contract of routes' before. The contract of routes' place. The contract of slices.IndexFunc at a slice of structs. No statement is proved here.
-/
import Derived.DeepKeys2
import Derived.Lib.BytesEntry
import Derived.Lib.Bytealg
import Derived.Laws.Externs
import Derived.Deep.DeepCutAuto
import Derived.RegionTactic
import Derived.Test.YtnblofbbbkjhpaaRoutesLimitsB2
namespace Go.Proofs.Ytnblofbbbkjhpaa
open Go.RowKit

theorem addr_eq (a b : AddrM) (ha : a.ok) (hb : b.ok) (w : World) : (Op.equalIn 10000 26 (.agg a.cells.toArray) (.agg b.cells.toArray)).run Try.prog w = .ok (decide (a = b)) w := by
  obtain ⟨la, hla⟩ := addr_lits 0 a ha
  obtain ⟨lb, hlb⟩ := addr_lits 0 b hb
  have hf : ∀ x : AddrM, x.ok → (Value.agg x.cells.toArray).formed Try.prog 26 = true := by
    intro x hx
    have hs : Try.prog.cellsOf 26 = x.cells.length := by rw [AddrM.cells_length hx]; kernel_rfl
    simp [Value.formed, Try.underlying26, hs]
  obtain ⟨r, hr, hiff⟩ := run_equalIn_deep (P := Try.prog) (10000 - 5) 5 26 (by kernel_rfl) w 3 3 (.agg a.cells.toArray) (.agg b.cells.toArray) la lb (hf a ha) (hf b hb) hla hlb
  rw [show 10000 - 5 + 5 = 10000 from rfl] at hr
  rw [hr]
  have h : r = true ↔ a = b := by
    rw [hiff]
    constructor
    · intro e
      have h1 := cells_of_lits 5 26 (by kernel_rfl) 3 a.cells la hla
      have h2 := cells_of_lits 5 26 (by kernel_rfl) 3 b.cells lb hlb
      exact cells_inj a b (by rw [h1, h2, e])
    · rintro rfl
      rw [hla] at hlb
      exact Option.some.inj hlb
  rw [show r = decide (a = b) by rw [Bool.eq_iff_iff, decide_eq_true_iff]; exact h]
theorem widthM_128 (a : AddrM) : widthM a ≤ 128 := by unfold widthM; split <;> omega
set_option maxRecDepth 100000 in
set_option maxHeartbeats 4000000 in
theorem validAddress_any (a : AddrM) (h : a.ok) (w : World) :
    Calls Try.prog 56 #[.agg a.cells.toArray] w fun e w' => e = .returned (.bool (soundM a)) ∧ Below w.heap.size w w' := by
  have hsz := fun W : World => size_any a W
  have hfs := fun W : World => first_any a h (widthM a) (widthM_128 a) W
  have heq := fun W : World => addr_eq (firstM a (widthM a)) a (firstM_ok a h _) h W
  rw [← sound_first a h] at heq
  obtain ⟨r, hr⟩ : ∃ r, soundM a = r := ⟨_, rfl⟩
  obtain ⟨ca, hca⟩ : ∃ c, a.cells.toArray = c := ⟨_, rfl⟩
  obtain ⟨cf, hcf⟩ : ∃ c, (firstM a (widthM a)).cells.toArray = c := ⟨_, rfl⟩
  simp only [hca, hcf, hr] at hsz hfs heq ⊢
  have HM := Lib.hid (show Mem w [blkE w.heap.size 26 a.cells] (w.alloc (.cells ca 26)) from (Mem.nil w).alloc rfl 26 ca a.cells hca.symm)
  have HO := Lib.hid h
  have HCA := Lib.hid hca
  have HSZ := Lib.hid hsz
  have HFS := Lib.hid hfs
  have HEQ := Lib.hid heq
  have HR := Lib.hid (Eq.refl r)
  clear h hca hsz hfs heq hcf hr
  go_enter Try.func56, Try.ntmps56
  go_upto_region 1 with fail
  generalize w.alloc (.cells ca 26) = w1 at HM ⊢
  refine wp_region_held_drew (S := fun W' => Mem w [blkE w.heap.size 26 a.cells] W') (by kernel_rfl) ((HM.out).drew) (fun hHeld => ?_)
  replace HM := Lib.hid HM.out.drew
  generalize w1.drew = wd1 at HM hHeld ⊢
  refine take_first (v := .agg ca) 0 rfl (by kernel_rfl) (by kernel_rfl) (by kernel_rfl) (fun _ _ _ h => h) (by rw [← HCA.out]; exact yields_load_obj (by rfl) 26 (.tmp 1) rfl w.heap.size 0 rfl a.cells (fun w' hb => (Mem.blk hb 0 rfl).all) _ Try.underlying26 rfl (addr_cellsOf _ HO.out)) (by assumption) ?_
  (try simp only [Act.put, List.setIfInBounds_toArray, List.set_cons_zero, List.set_cons_succ])
  refine take_first (v := .agg ca) 1 rfl (by kernel_rfl) (by kernel_rfl) (by kernel_rfl) (fun _ _ _ h => h) (by rw [← HCA.out]; exact yields_load_obj (by rfl) 26 (.tmp 1) rfl w.heap.size 0 rfl a.cells (fun w' hb => (Mem.blk hb 0 rfl).all) _ Try.underlying26 rfl (addr_cellsOf _ HO.out)) (by assumption) ?_
  (try simp only [Act.put, List.setIfInBounds_toArray, List.set_cons_zero, List.set_cons_succ])
  refine take_first (v := .agg ca) 4 rfl (by kernel_rfl) (by kernel_rfl) (by kernel_rfl) (fun _ _ _ h => h) (by rw [← HCA.out]; exact yields_load_obj (by rfl) 26 (.tmp 1) rfl w.heap.size 0 rfl a.cells (fun w' hb => (Mem.blk hb 0 rfl).all) _ Try.underlying26 rfl (addr_cellsOf _ HO.out)) (by assumption) ?_
  (try simp only [Act.put, List.setIfInBounds_toArray, List.set_cons_zero, List.set_cons_succ])
  refine step_one 2 rfl (by kernel_rfl) (fun K hK => ?_)
  clear hHeld
  go_simp
  refine (HSZ.out _).mono ?_
  rintro e wy2 ⟨rfl, hb⟩
  replace HM := Lib.hid (show Mem w [blkE w.heap.size 26 a.cells] wy2 from HM.out.below hb)
  clear hb
  go_wp2_with fail
  refine hK.out _ _ (HM.out) (fun hHeld => ?_)
  clear hK K
  (try simp only [Act.put, List.setIfInBounds_toArray, List.set_cons_zero, List.set_cons_succ])
  refine step_one 3 rfl (by kernel_rfl) (fun K hK => ?_)
  clear hHeld
  go_simp
  refine (HFS.out _).mono ?_
  rintro e wy3 ⟨rfl, hb⟩
  replace HM := Lib.hid (show Mem w [blkE w.heap.size 26 a.cells] wy3 from HM.out.below hb)
  clear hb
  go_wp2_with fail
  refine hK.out _ _ (HM.out) (fun hHeld => ?_)
  clear hK K
  (try simp only [Act.put, List.setIfInBounds_toArray, List.set_cons_zero, List.set_cons_succ])
  refine take_first (v := ?_) 5 rfl (by kernel_rfl) (by kernel_rfl) (by kernel_rfl) (fun _ _ _ h => h) (Or.inl ⟨by rfl, ?_⟩) (by assumption) ?_
  rotate_left
  · (intro w hSw; (try dsimp only at hSw); refine (run_eql_agg _ _ 26 26 6 7 ?_ cf ca r w ?_ ?_ addr_noguard (HEQ.out w)).trans ?_ <;> first | with_reducible rfl | rfl)
  (try simp only [Act.put, List.setIfInBounds_toArray, List.set_cons_zero, List.set_cons_succ])
  refine take_first (v := ?_) 6 rfl (by kernel_rfl) (by kernel_rfl) (by kernel_rfl) (fun _ _ _ h => h) (Or.inl ⟨by rfl, ?_⟩) (by assumption) ?_
  rotate_left
  · (intro w hSw; (try dsimp only at hSw); go_simp; try with_reducible rfl)
  (try simp only [Act.put, List.setIfInBounds_toArray, List.set_cons_zero, List.set_cons_succ])
  refine wpAnyH_done (by kernel_rfl) ?_ _
  clear hHeld
  go_wp2
  go_ret
  exact ⟨by first | rfl | (rw [HR.out]; rfl), HM.out.bel⟩
set_option maxRecDepth 100000 in
set_option maxHeartbeats 4000000 in
theorem valid_any (a : AddrM) (bits : Int) (h : a.ok) (w : World) :
    Calls Try.prog 33 #[.agg (prefC a bits).toArray] w fun e w' => e = .returned (.bool (validM a bits)) ∧ Below w.heap.size w w' := by
  have hvf := valid_first a h bits
  have hsz := fun W : World => size_any a W
  have hwl := widthM_128 a
  obtain ⟨cp, hcp⟩ : ∃ c, (prefC a bits).toArray = c := ⟨_, rfl⟩
  obtain ⟨ca, hca⟩ : ∃ c, a.cells.toArray = c := ⟨_, rfl⟩
  obtain ⟨vv, hvv⟩ : ∃ r, validM a bits = r := ⟨_, rfl⟩
  obtain ⟨wd, hwd⟩ : ∃ r, widthM a = r := ⟨_, rfl⟩
  simp only [hcp, hca, hvv, hwd] at hvf hsz hwl ⊢
  have HM := Lib.hid (show Mem w [blkE w.heap.size 28 (prefC a bits)] (w.alloc (.cells cp 28)) from (Mem.nil w).alloc rfl 28 cp (prefC a bits) hcp.symm)
  have HO := Lib.hid h
  have HCA := Lib.hid hca
  have HSZ := Lib.hid hsz
  clear hcp hca hsz hvv hwd
  go_enter Try.func33, Try.ntmps33
  go_upto_region 1 with fail
  generalize w.alloc (.cells cp 28) = w1 at HM ⊢
  by_cases h0 : 0 ≤ bits
  · by_cases h1 : bits ≤ (wd : Int)
    · have HD0 := Lib.hid (show decide (0 ≤ bits) = true by simpa using h0)
      have HD1 := Lib.hid (show decide (bits ≤ (wd : Int)) = true by simpa using h1)
      rw [HD0.out, HD1.out, Bool.true_and, Bool.true_and] at hvf
      obtain ⟨k, hk⟩ : ∃ k : Nat, bits = (k : Int) := ⟨bits.toNat, by omega⟩
      have hfs := fun W : World => first_any a h k (by omega) W
      have heq := fun W : World => addr_eq (firstM a k) a (firstM_ok a h _) h W
      have hkn : bits.toNat = k := by omega
      rw [hkn] at hvf
      obtain ⟨cf, hcf⟩ : ∃ c, (firstM a k).cells.toArray = c := ⟨_, rfl⟩
      rw [← hvf] at heq
      rw [← hk] at hfs
      simp only [HCA.out, hcf] at hfs heq
      have HFS := Lib.hid hfs
      have HEQ := Lib.hid heq
      have HR := Lib.hid (Eq.refl vv)
      clear hfs heq hvf hkn hk h h0 h1 hcf hwl
      refine wp_region_held_drew (S := fun W' => Mem w [blkE w.heap.size 28 (prefC a bits)] W') (by kernel_rfl) ((HM.out).drew) (fun hHeld => ?_)
      replace HM := Lib.hid HM.out.drew
      generalize w1.drew = wd1 at HM hHeld ⊢
      refine take_first (v := ?_) 0 rfl (by kernel_rfl) (by kernel_rfl) (by kernel_rfl) (fun _ _ _ h => h) (Or.inl ⟨by rfl, ?_⟩) (by assumption) ?_
      rotate_left
      · (intro w hSw; (try dsimp only at hSw); go_simp; try with_reducible rfl)
      (try simp only [Act.put, List.setIfInBounds_toArray, List.set_cons_zero, List.set_cons_succ])
      refine take_first (v := ?_) 1 rfl (by kernel_rfl) (by kernel_rfl) (by kernel_rfl) (fun _ _ _ h => h) (Or.inl ⟨by rfl, ?_⟩) (by assumption) ?_
      rotate_left
      · (intro w hSw; (try dsimp only at hSw); have fb := (Mem.blk hSw 0 rfl).cell 17; rw [prefC_bits a HO.out bits] at fb; go_simp; try with_reducible rfl)
      (try simp only [Act.put, List.setIfInBounds_toArray, List.set_cons_zero, List.set_cons_succ])
      refine take_first (v := ?_) 2 rfl (by kernel_rfl) (by kernel_rfl) (by kernel_rfl) (fun _ _ _ h => h) (Or.inl ⟨by rfl, ?_⟩) (by assumption) ?_
      rotate_left
      · (intro w hSw; (try dsimp only at hSw); have d0 := HD0.out; go_simp; try with_reducible rfl)
      (try simp only [Act.put, List.setIfInBounds_toArray, List.set_cons_zero, List.set_cons_succ])
      refine take_first (v := ?_) 3 rfl (by kernel_rfl) (by kernel_rfl) (by kernel_rfl) (fun _ _ _ h => h) (Or.inl ⟨by rfl, ?_⟩) (by assumption) ?_
      rotate_left
      · (intro w hSw; (try dsimp only at hSw); go_simp; try with_reducible rfl)
      (try simp only [Act.put, List.setIfInBounds_toArray, List.set_cons_zero, List.set_cons_succ])
      refine take_first (v := ?_) 4 rfl (by kernel_rfl) (by kernel_rfl) (by kernel_rfl) (fun _ _ _ h => h) (Or.inl ⟨by rfl, ?_⟩) (by assumption) ?_
      rotate_left
      · (intro w hSw; (try dsimp only at hSw); go_simp; try with_reducible rfl)
      (try simp only [Act.put, List.setIfInBounds_toArray, List.set_cons_zero, List.set_cons_succ])
      refine take_first (v := ?_) 5 rfl (by kernel_rfl) (by kernel_rfl) (by kernel_rfl) (fun _ _ _ h => h) (Or.inl ⟨by rfl, ?_⟩) (by assumption) ?_
      rotate_left
      · (intro w hSw; (try dsimp only at hSw); have fb := (Mem.blk hSw 0 rfl).cell 17; rw [prefC_bits a HO.out bits] at fb; go_simp; try with_reducible rfl)
      (try simp only [Act.put, List.setIfInBounds_toArray, List.set_cons_zero, List.set_cons_succ])
      refine take_first (v := ?_) 6 rfl (by kernel_rfl) (by kernel_rfl) (by kernel_rfl) (fun _ _ _ h => h) (Or.inl ⟨by rfl, ?_⟩) (by assumption) ?_
      rotate_left
      · (intro w hSw; (try dsimp only at hSw); go_simp; try with_reducible rfl)
      (try simp only [Act.put, List.setIfInBounds_toArray, List.set_cons_zero, List.set_cons_succ])
      refine take_first (v := .agg ca) 7 rfl (by kernel_rfl) (by kernel_rfl) (by kernel_rfl) (fun _ _ _ h => h) (by rw [← HCA.out]; exact yields_load_obj (by rfl) 26 (.tmp 9) rfl w.heap.size 0 rfl a.cells (fun w' hb => by have h := (Mem.blk hb 0 rfl).sub 0 17; rw [prefC_addr a HO.out bits] at h; exact h) _ Try.underlying26 rfl (addr_cellsOf _ HO.out)) (by assumption) ?_
      (try simp only [Act.put, List.setIfInBounds_toArray, List.set_cons_zero, List.set_cons_succ])
      refine step_one 8 rfl (by kernel_rfl) (fun K hK => ?_)
      clear hHeld
      go_simp
      refine (HSZ.out _).mono ?_
      rintro e wy2 ⟨rfl, hb⟩
      replace HM := Lib.hid (show Mem w [blkE w.heap.size 28 (prefC a bits)] wy2 from HM.out.below hb)
      clear hb
      go_wp2_with fail
      refine hK.out _ _ (HM.out) (fun hHeld => ?_)
      clear hK K
      (try simp only [Act.put, List.setIfInBounds_toArray, List.set_cons_zero, List.set_cons_succ])
      refine take_first (v := ?_) 9 rfl (by kernel_rfl) (by kernel_rfl) (by kernel_rfl) (fun _ _ _ h => h) (Or.inl ⟨by rfl, ?_⟩) (by assumption) ?_
      rotate_left
      · (intro w hSw; (try dsimp only at hSw); have d1 := HD1.out; go_simp; try with_reducible rfl)
      (try simp only [Act.put, List.setIfInBounds_toArray, List.set_cons_zero, List.set_cons_succ])
      refine take_first (v := ?_) 10 rfl (by kernel_rfl) (by kernel_rfl) (by kernel_rfl) (fun _ _ _ h => h) (Or.inl ⟨by rfl, ?_⟩) (by assumption) ?_
      rotate_left
      · (intro w hSw; (try dsimp only at hSw); go_simp; try with_reducible rfl)
      (try simp only [Act.put, List.setIfInBounds_toArray, List.set_cons_zero, List.set_cons_succ])
      refine take_first (v := ?_) 11 rfl (by kernel_rfl) (by kernel_rfl) (by kernel_rfl) (fun _ _ _ h => h) (Or.inl ⟨by rfl, ?_⟩) (by assumption) ?_
      rotate_left
      · (intro w hSw; (try dsimp only at hSw); go_simp; try with_reducible rfl)
      (try simp only [Act.put, List.setIfInBounds_toArray, List.set_cons_zero, List.set_cons_succ])
      refine take_first (v := ?_) 12 rfl (by kernel_rfl) (by kernel_rfl) (by kernel_rfl) (fun _ _ _ h => h) (Or.inl ⟨by rfl, ?_⟩) (by assumption) ?_
      rotate_left
      · (intro w hSw; (try dsimp only at hSw); go_simp; try with_reducible rfl)
      (try simp only [Act.put, List.setIfInBounds_toArray, List.set_cons_zero, List.set_cons_succ])
      refine take_first (v := .agg ca) 13 rfl (by kernel_rfl) (by kernel_rfl) (by kernel_rfl) (fun _ _ _ h => h) (by rw [← HCA.out]; exact yields_load_obj (by rfl) 26 (.tmp 15) rfl w.heap.size 0 rfl a.cells (fun w' hb => by have h := (Mem.blk hb 0 rfl).sub 0 17; rw [prefC_addr a HO.out bits] at h; exact h) _ Try.underlying26 rfl (addr_cellsOf _ HO.out)) (by assumption) ?_
      (try simp only [Act.put, List.setIfInBounds_toArray, List.set_cons_zero, List.set_cons_succ])
      refine take_first (v := ?_) 14 rfl (by kernel_rfl) (by kernel_rfl) (by kernel_rfl) (fun _ _ _ h => h) (Or.inl ⟨by rfl, ?_⟩) (by assumption) ?_
      rotate_left
      · (intro w hSw; (try dsimp only at hSw); go_simp; try with_reducible rfl)
      (try simp only [Act.put, List.setIfInBounds_toArray, List.set_cons_zero, List.set_cons_succ])
      refine take_first (v := ?_) 15 rfl (by kernel_rfl) (by kernel_rfl) (by kernel_rfl) (fun _ _ _ h => h) (Or.inl ⟨by rfl, ?_⟩) (by assumption) ?_
      rotate_left
      · (intro w hSw; (try dsimp only at hSw); have fb := (Mem.blk hSw 0 rfl).cell 17; rw [prefC_bits a HO.out bits] at fb; go_simp; try with_reducible rfl)
      (try simp only [Act.put, List.setIfInBounds_toArray, List.set_cons_zero, List.set_cons_succ])
      refine take_first (v := ?_) 17 rfl (by kernel_rfl) (by kernel_rfl) (by kernel_rfl) (fun _ _ _ h => h) (Or.inl ⟨by rfl, ?_⟩) (by assumption) ?_
      rotate_left
      · (intro w hSw; (try dsimp only at hSw); go_simp; try with_reducible rfl)
      (try simp only [Act.put, List.setIfInBounds_toArray, List.set_cons_zero, List.set_cons_succ])
      refine take_first (v := .agg ca) 18 rfl (by kernel_rfl) (by kernel_rfl) (by kernel_rfl) (fun _ _ _ h => h) (by rw [← HCA.out]; exact yields_load_obj (by rfl) 26 (.tmp 20) rfl w.heap.size 0 rfl a.cells (fun w' hb => by have h := (Mem.blk hb 0 rfl).sub 0 17; rw [prefC_addr a HO.out bits] at h; exact h) _ Try.underlying26 rfl (addr_cellsOf _ HO.out)) (by assumption) ?_
      (try simp only [Act.put, List.setIfInBounds_toArray, List.set_cons_zero, List.set_cons_succ])
      refine step_one 16 rfl (by kernel_rfl) (fun K hK => ?_)
      clear hHeld
      go_simp
      refine (HFS.out _).mono ?_
      rintro e wy3 ⟨rfl, hb⟩
      replace HM := Lib.hid (show Mem w [blkE w.heap.size 28 (prefC a bits)] wy3 from HM.out.below hb)
      clear hb
      go_wp2_with fail
      refine hK.out _ _ (HM.out) (fun hHeld => ?_)
      clear hK K
      (try simp only [Act.put, List.setIfInBounds_toArray, List.set_cons_zero, List.set_cons_succ])
      refine take_first (v := ?_) 19 rfl (by kernel_rfl) (by kernel_rfl) (by kernel_rfl) (fun _ _ _ h => h) (Or.inl ⟨by rfl, ?_⟩) (by assumption) ?_
      rotate_left
      · (intro w hSw; (try dsimp only at hSw); refine (run_eql_agg _ _ 26 26 19 21 ?_ cf ca vv w ?_ ?_ addr_noguard (HEQ.out w)).trans ?_ <;> first | with_reducible rfl | rfl)
      (try simp only [Act.put, List.setIfInBounds_toArray, List.set_cons_zero, List.set_cons_succ])
      refine take_first (v := ?_) 20 rfl (by kernel_rfl) (by kernel_rfl) (by kernel_rfl) (fun _ _ _ h => h) (Or.inl ⟨by rfl, ?_⟩) (by assumption) ?_
      rotate_left
      · (intro w hSw; (try dsimp only at hSw); go_simp; try with_reducible rfl)
      (try simp only [Act.put, List.setIfInBounds_toArray, List.set_cons_zero, List.set_cons_succ])
      refine take_first (v := ?_) 21 rfl (by kernel_rfl) (by kernel_rfl) (by kernel_rfl) (fun _ _ _ h => h) (Or.inl ⟨by rfl, ?_⟩) (by assumption) ?_
      rotate_left
      · (intro w hSw; (try dsimp only at hSw); go_simp; try with_reducible rfl)
      (try simp only [Act.put, List.setIfInBounds_toArray, List.set_cons_zero, List.set_cons_succ])
      refine wpAnyH_done (by kernel_rfl) ?_ _
      clear hHeld
      go_wp2
      go_ret
      exact ⟨by first | rfl | (rw [HR.out]; rfl), HM.out.bel⟩
    · have HD0 := Lib.hid (show decide (0 ≤ bits) = true by simpa using h0)
      have HD1 := Lib.hid (show decide (bits ≤ (wd : Int)) = false by simpa using h1)
      have HR := Lib.hid (show vv = false by rw [hvf, HD1.out]; simp)
      clear hvf h h0 h1 hwl
      refine wp_region_held_drew (S := fun W' => Mem w [blkE w.heap.size 28 (prefC a bits)] W') (by kernel_rfl) ((HM.out).drew) (fun hHeld => ?_)
      replace HM := Lib.hid HM.out.drew
      generalize w1.drew = wd1 at HM hHeld ⊢
      refine take_first (v := ?_) 0 rfl (by kernel_rfl) (by kernel_rfl) (by kernel_rfl) (fun _ _ _ h => h) (Or.inl ⟨by rfl, ?_⟩) (by assumption) ?_
      rotate_left
      · (intro w hSw; (try dsimp only at hSw); go_simp; try with_reducible rfl)
      (try simp only [Act.put, List.setIfInBounds_toArray, List.set_cons_zero, List.set_cons_succ])
      refine take_first (v := ?_) 1 rfl (by kernel_rfl) (by kernel_rfl) (by kernel_rfl) (fun _ _ _ h => h) (Or.inl ⟨by rfl, ?_⟩) (by assumption) ?_
      rotate_left
      · (intro w hSw; (try dsimp only at hSw); have fb := (Mem.blk hSw 0 rfl).cell 17; rw [prefC_bits a HO.out bits] at fb; go_simp; try with_reducible rfl)
      (try simp only [Act.put, List.setIfInBounds_toArray, List.set_cons_zero, List.set_cons_succ])
      refine take_first (v := ?_) 2 rfl (by kernel_rfl) (by kernel_rfl) (by kernel_rfl) (fun _ _ _ h => h) (Or.inl ⟨by rfl, ?_⟩) (by assumption) ?_
      rotate_left
      · (intro w hSw; (try dsimp only at hSw); have d0 := HD0.out; go_simp; try with_reducible rfl)
      (try simp only [Act.put, List.setIfInBounds_toArray, List.set_cons_zero, List.set_cons_succ])
      refine take_first (v := ?_) 3 rfl (by kernel_rfl) (by kernel_rfl) (by kernel_rfl) (fun _ _ _ h => h) (Or.inl ⟨by rfl, ?_⟩) (by assumption) ?_
      rotate_left
      · (intro w hSw; (try dsimp only at hSw); go_simp; try with_reducible rfl)
      (try simp only [Act.put, List.setIfInBounds_toArray, List.set_cons_zero, List.set_cons_succ])
      refine take_first (v := ?_) 4 rfl (by kernel_rfl) (by kernel_rfl) (by kernel_rfl) (fun _ _ _ h => h) (Or.inl ⟨by rfl, ?_⟩) (by assumption) ?_
      rotate_left
      · (intro w hSw; (try dsimp only at hSw); go_simp; try with_reducible rfl)
      (try simp only [Act.put, List.setIfInBounds_toArray, List.set_cons_zero, List.set_cons_succ])
      refine take_first (v := ?_) 5 rfl (by kernel_rfl) (by kernel_rfl) (by kernel_rfl) (fun _ _ _ h => h) (Or.inl ⟨by rfl, ?_⟩) (by assumption) ?_
      rotate_left
      · (intro w hSw; (try dsimp only at hSw); have fb := (Mem.blk hSw 0 rfl).cell 17; rw [prefC_bits a HO.out bits] at fb; go_simp; try with_reducible rfl)
      (try simp only [Act.put, List.setIfInBounds_toArray, List.set_cons_zero, List.set_cons_succ])
      refine take_first (v := ?_) 6 rfl (by kernel_rfl) (by kernel_rfl) (by kernel_rfl) (fun _ _ _ h => h) (Or.inl ⟨by rfl, ?_⟩) (by assumption) ?_
      rotate_left
      · (intro w hSw; (try dsimp only at hSw); go_simp; try with_reducible rfl)
      (try simp only [Act.put, List.setIfInBounds_toArray, List.set_cons_zero, List.set_cons_succ])
      refine take_first (v := .agg ca) 7 rfl (by kernel_rfl) (by kernel_rfl) (by kernel_rfl) (fun _ _ _ h => h) (by rw [← HCA.out]; exact yields_load_obj (by rfl) 26 (.tmp 9) rfl w.heap.size 0 rfl a.cells (fun w' hb => by have h := (Mem.blk hb 0 rfl).sub 0 17; rw [prefC_addr a HO.out bits] at h; exact h) _ Try.underlying26 rfl (addr_cellsOf _ HO.out)) (by assumption) ?_
      (try simp only [Act.put, List.setIfInBounds_toArray, List.set_cons_zero, List.set_cons_succ])
      refine step_one 8 rfl (by kernel_rfl) (fun K hK => ?_)
      clear hHeld
      go_simp
      refine (HSZ.out _).mono ?_
      rintro e wy2 ⟨rfl, hb⟩
      replace HM := Lib.hid (show Mem w [blkE w.heap.size 28 (prefC a bits)] wy2 from HM.out.below hb)
      clear hb
      go_wp2_with fail
      refine hK.out _ _ (HM.out) (fun hHeld => ?_)
      clear hK K
      (try simp only [Act.put, List.setIfInBounds_toArray, List.set_cons_zero, List.set_cons_succ])
      refine take_first (v := ?_) 9 rfl (by kernel_rfl) (by kernel_rfl) (by kernel_rfl) (fun _ _ _ h => h) (Or.inl ⟨by rfl, ?_⟩) (by assumption) ?_
      rotate_left
      · (intro w hSw; (try dsimp only at hSw); have d1 := HD1.out; go_simp; try with_reducible rfl)
      (try simp only [Act.put, List.setIfInBounds_toArray, List.set_cons_zero, List.set_cons_succ])
      refine take_first (v := ?_) 10 rfl (by kernel_rfl) (by kernel_rfl) (by kernel_rfl) (fun _ _ _ h => h) (Or.inl ⟨by rfl, ?_⟩) (by assumption) ?_
      rotate_left
      · (intro w hSw; (try dsimp only at hSw); go_simp; try with_reducible rfl)
      (try simp only [Act.put, List.setIfInBounds_toArray, List.set_cons_zero, List.set_cons_succ])
      refine take_first (v := ?_) 11 rfl (by kernel_rfl) (by kernel_rfl) (by kernel_rfl) (fun _ _ _ h => h) (Or.inl ⟨by rfl, ?_⟩) (by assumption) ?_
      rotate_left
      · (intro w hSw; (try dsimp only at hSw); go_simp; try with_reducible rfl)
      (try simp only [Act.put, List.setIfInBounds_toArray, List.set_cons_zero, List.set_cons_succ])
      refine take_first (v := undef) 12 rfl (by kernel_rfl) (by kernel_rfl) (by kernel_rfl) (fun _ _ _ h => h) (Or.inr ⟨by rfl, rfl⟩) (by assumption) ?_
      (try simp only [Act.put, List.setIfInBounds_toArray, List.set_cons_zero, List.set_cons_succ])
      refine take_first (v := undef) 13 rfl (by kernel_rfl) (by kernel_rfl) (by kernel_rfl) (fun _ _ _ h => h) (Or.inr ⟨by rfl, rfl⟩) (by assumption) ?_
      (try simp only [Act.put, List.setIfInBounds_toArray, List.set_cons_zero, List.set_cons_succ])
      refine take_first (v := undef) 14 rfl (by kernel_rfl) (by kernel_rfl) (by kernel_rfl) (fun _ _ _ h => h) (Or.inr ⟨by rfl, rfl⟩) (by assumption) ?_
      (try simp only [Act.put, List.setIfInBounds_toArray, List.set_cons_zero, List.set_cons_succ])
      refine take_first (v := undef) 15 rfl (by kernel_rfl) (by kernel_rfl) (by kernel_rfl) (fun _ _ _ h => h) (Or.inr ⟨by rfl, rfl⟩) (by assumption) ?_
      (try simp only [Act.put, List.setIfInBounds_toArray, List.set_cons_zero, List.set_cons_succ])
      refine take_first (v := undef) 16 rfl (by kernel_rfl) (by kernel_rfl) (by kernel_rfl) (fun _ _ _ h => h) (Or.inr ⟨by rfl, rfl⟩) (by assumption) ?_
      (try simp only [Act.put, List.setIfInBounds_toArray, List.set_cons_zero, List.set_cons_succ])
      refine take_first (v := undef) 17 rfl (by kernel_rfl) (by kernel_rfl) (by kernel_rfl) (fun _ _ _ h => h) (Or.inr ⟨by rfl, rfl⟩) (by assumption) ?_
      (try simp only [Act.put, List.setIfInBounds_toArray, List.set_cons_zero, List.set_cons_succ])
      refine take_first (v := undef) 18 rfl (by kernel_rfl) (by kernel_rfl) (by kernel_rfl) (fun _ _ _ h => h) (Or.inr ⟨by rfl, rfl⟩) (by assumption) ?_
      (try simp only [Act.put, List.setIfInBounds_toArray, List.set_cons_zero, List.set_cons_succ])
      refine take_first (v := undef) 19 rfl (by kernel_rfl) (by kernel_rfl) (by kernel_rfl) (fun _ _ _ h => h) (Or.inr ⟨by rfl, rfl⟩) (by assumption) ?_
      (try simp only [Act.put, List.setIfInBounds_toArray, List.set_cons_zero, List.set_cons_succ])
      refine take_first (v := ?_) 20 rfl (by kernel_rfl) (by kernel_rfl) (by kernel_rfl) (fun _ _ _ h => h) (Or.inl ⟨by rfl, ?_⟩) (by assumption) ?_
      rotate_left
      · (intro w hSw; (try dsimp only at hSw); go_simp; try with_reducible rfl)
      (try simp only [Act.put, List.setIfInBounds_toArray, List.set_cons_zero, List.set_cons_succ])
      refine take_first (v := ?_) 21 rfl (by kernel_rfl) (by kernel_rfl) (by kernel_rfl) (fun _ _ _ h => h) (Or.inl ⟨by rfl, ?_⟩) (by assumption) ?_
      rotate_left
      · (intro w hSw; (try dsimp only at hSw); go_simp; try with_reducible rfl)
      (try simp only [Act.put, List.setIfInBounds_toArray, List.set_cons_zero, List.set_cons_succ])
      refine wpAnyH_done (by kernel_rfl) ?_ _
      clear hHeld
      go_wp2
      go_ret
      exact ⟨by first | rfl | (rw [HR.out]; rfl), HM.out.bel⟩
  · have HD0 := Lib.hid (show decide (0 ≤ bits) = false by simpa using h0)
    have HR := Lib.hid (show vv = false by rw [hvf, HD0.out]; simp)
    clear hvf h h0 hwl
    refine wp_region_held_drew (S := fun W' => Mem w [blkE w.heap.size 28 (prefC a bits)] W') (by kernel_rfl) ((HM.out).drew) (fun hHeld => ?_)
    replace HM := Lib.hid HM.out.drew
    generalize w1.drew = wd1 at HM hHeld ⊢
    refine take_first (v := ?_) 0 rfl (by kernel_rfl) (by kernel_rfl) (by kernel_rfl) (fun _ _ _ h => h) (Or.inl ⟨by rfl, ?_⟩) (by assumption) ?_
    rotate_left
    · (intro w hSw; (try dsimp only at hSw); go_simp; try with_reducible rfl)
    (try simp only [Act.put, List.setIfInBounds_toArray, List.set_cons_zero, List.set_cons_succ])
    refine take_first (v := ?_) 1 rfl (by kernel_rfl) (by kernel_rfl) (by kernel_rfl) (fun _ _ _ h => h) (Or.inl ⟨by rfl, ?_⟩) (by assumption) ?_
    rotate_left
    · (intro w hSw; (try dsimp only at hSw); have fb := (Mem.blk hSw 0 rfl).cell 17; rw [prefC_bits a HO.out bits] at fb; go_simp; try with_reducible rfl)
    (try simp only [Act.put, List.setIfInBounds_toArray, List.set_cons_zero, List.set_cons_succ])
    refine take_first (v := ?_) 2 rfl (by kernel_rfl) (by kernel_rfl) (by kernel_rfl) (fun _ _ _ h => h) (Or.inl ⟨by rfl, ?_⟩) (by assumption) ?_
    rotate_left
    · (intro w hSw; (try dsimp only at hSw); have d0 := HD0.out; go_simp; try with_reducible rfl)
    (try simp only [Act.put, List.setIfInBounds_toArray, List.set_cons_zero, List.set_cons_succ])
    refine take_first (v := ?_) 3 rfl (by kernel_rfl) (by kernel_rfl) (by kernel_rfl) (fun _ _ _ h => h) (Or.inl ⟨by rfl, ?_⟩) (by assumption) ?_
    rotate_left
    · (intro w hSw; (try dsimp only at hSw); go_simp; try with_reducible rfl)
    (try simp only [Act.put, List.setIfInBounds_toArray, List.set_cons_zero, List.set_cons_succ])
    refine take_first (v := undef) 4 rfl (by kernel_rfl) (by kernel_rfl) (by kernel_rfl) (fun _ _ _ h => h) (Or.inr ⟨by rfl, rfl⟩) (by assumption) ?_
    (try simp only [Act.put, List.setIfInBounds_toArray, List.set_cons_zero, List.set_cons_succ])
    refine take_first (v := undef) 5 rfl (by kernel_rfl) (by kernel_rfl) (by kernel_rfl) (fun _ _ _ h => h) (Or.inr ⟨by rfl, rfl⟩) (by assumption) ?_
    (try simp only [Act.put, List.setIfInBounds_toArray, List.set_cons_zero, List.set_cons_succ])
    refine take_first (v := undef) 6 rfl (by kernel_rfl) (by kernel_rfl) (by kernel_rfl) (fun _ _ _ h => h) (Or.inr ⟨by rfl, rfl⟩) (by assumption) ?_
    (try simp only [Act.put, List.setIfInBounds_toArray, List.set_cons_zero, List.set_cons_succ])
    refine take_first (v := undef) 7 rfl (by kernel_rfl) (by kernel_rfl) (by kernel_rfl) (fun _ _ _ h => h) (Or.inr ⟨by rfl, rfl⟩) (by assumption) ?_
    (try simp only [Act.put, List.setIfInBounds_toArray, List.set_cons_zero, List.set_cons_succ])
    refine take_first (v := undef) 8 rfl (by kernel_rfl) (by kernel_rfl) (by kernel_rfl) (fun _ _ _ h => h) (Or.inr ⟨by rfl, rfl⟩) (by assumption) ?_
    (try simp only [Act.put, List.setIfInBounds_toArray, List.set_cons_zero, List.set_cons_succ])
    refine take_first (v := undef) 9 rfl (by kernel_rfl) (by kernel_rfl) (by kernel_rfl) (fun _ _ _ h => h) (Or.inr ⟨by rfl, rfl⟩) (by assumption) ?_
    (try simp only [Act.put, List.setIfInBounds_toArray, List.set_cons_zero, List.set_cons_succ])
    refine take_first (v := ?_) 10 rfl (by kernel_rfl) (by kernel_rfl) (by kernel_rfl) (fun _ _ _ h => h) (Or.inl ⟨by rfl, ?_⟩) (by assumption) ?_
    rotate_left
    · (intro w hSw; (try dsimp only at hSw); go_simp; try with_reducible rfl)
    (try simp only [Act.put, List.setIfInBounds_toArray, List.set_cons_zero, List.set_cons_succ])
    refine take_first (v := ?_) 11 rfl (by kernel_rfl) (by kernel_rfl) (by kernel_rfl) (fun _ _ _ h => h) (Or.inl ⟨by rfl, ?_⟩) (by assumption) ?_
    rotate_left
    · (intro w hSw; (try dsimp only at hSw); go_simp; try with_reducible rfl)
    (try simp only [Act.put, List.setIfInBounds_toArray, List.set_cons_zero, List.set_cons_succ])
    refine take_first (v := undef) 12 rfl (by kernel_rfl) (by kernel_rfl) (by kernel_rfl) (fun _ _ _ h => h) (Or.inr ⟨by rfl, rfl⟩) (by assumption) ?_
    (try simp only [Act.put, List.setIfInBounds_toArray, List.set_cons_zero, List.set_cons_succ])
    refine take_first (v := undef) 13 rfl (by kernel_rfl) (by kernel_rfl) (by kernel_rfl) (fun _ _ _ h => h) (Or.inr ⟨by rfl, rfl⟩) (by assumption) ?_
    (try simp only [Act.put, List.setIfInBounds_toArray, List.set_cons_zero, List.set_cons_succ])
    refine take_first (v := undef) 14 rfl (by kernel_rfl) (by kernel_rfl) (by kernel_rfl) (fun _ _ _ h => h) (Or.inr ⟨by rfl, rfl⟩) (by assumption) ?_
    (try simp only [Act.put, List.setIfInBounds_toArray, List.set_cons_zero, List.set_cons_succ])
    refine take_first (v := undef) 15 rfl (by kernel_rfl) (by kernel_rfl) (by kernel_rfl) (fun _ _ _ h => h) (Or.inr ⟨by rfl, rfl⟩) (by assumption) ?_
    (try simp only [Act.put, List.setIfInBounds_toArray, List.set_cons_zero, List.set_cons_succ])
    refine take_first (v := undef) 16 rfl (by kernel_rfl) (by kernel_rfl) (by kernel_rfl) (fun _ _ _ h => h) (Or.inr ⟨by rfl, rfl⟩) (by assumption) ?_
    (try simp only [Act.put, List.setIfInBounds_toArray, List.set_cons_zero, List.set_cons_succ])
    refine take_first (v := undef) 17 rfl (by kernel_rfl) (by kernel_rfl) (by kernel_rfl) (fun _ _ _ h => h) (Or.inr ⟨by rfl, rfl⟩) (by assumption) ?_
    (try simp only [Act.put, List.setIfInBounds_toArray, List.set_cons_zero, List.set_cons_succ])
    refine take_first (v := undef) 18 rfl (by kernel_rfl) (by kernel_rfl) (by kernel_rfl) (fun _ _ _ h => h) (Or.inr ⟨by rfl, rfl⟩) (by assumption) ?_
    (try simp only [Act.put, List.setIfInBounds_toArray, List.set_cons_zero, List.set_cons_succ])
    refine take_first (v := undef) 19 rfl (by kernel_rfl) (by kernel_rfl) (by kernel_rfl) (fun _ _ _ h => h) (Or.inr ⟨by rfl, rfl⟩) (by assumption) ?_
    (try simp only [Act.put, List.setIfInBounds_toArray, List.set_cons_zero, List.set_cons_succ])
    refine take_first (v := ?_) 20 rfl (by kernel_rfl) (by kernel_rfl) (by kernel_rfl) (fun _ _ _ h => h) (Or.inl ⟨by rfl, ?_⟩) (by assumption) ?_
    rotate_left
    · (intro w hSw; (try dsimp only at hSw); go_simp; try with_reducible rfl)
    (try simp only [Act.put, List.setIfInBounds_toArray, List.set_cons_zero, List.set_cons_succ])
    refine take_first (v := ?_) 21 rfl (by kernel_rfl) (by kernel_rfl) (by kernel_rfl) (fun _ _ _ h => h) (Or.inl ⟨by rfl, ?_⟩) (by assumption) ?_
    rotate_left
    · (intro w hSw; (try dsimp only at hSw); go_simp; try with_reducible rfl)
    (try simp only [Act.put, List.setIfInBounds_toArray, List.set_cons_zero, List.set_cons_succ])
    refine wpAnyH_done (by kernel_rfl) ?_ _
    clear hHeld
    go_wp2
    go_ret
    exact ⟨by first | rfl | (rw [HR.out]; rfl), HM.out.bel⟩
set_option maxRecDepth 100000 in
set_option maxHeartbeats 4000000 in
theorem contains_any (a : AddrM) (bits : Int) (h : a.ok) (x : AddrM) (hx : x.ok) (w : World) :
    Calls Try.prog 46 #[.agg (prefC a bits).toArray, .agg x.cells.toArray] w fun e w' => e = .returned (.bool (containsM a bits x)) ∧ Below w.heap.size w w' := by
  have hcf0 := contains_first a x h hx bits
  have hvf := valid_first a h bits
  have hva := fun W : World => valid_any a bits h W
  have hsx := fun W : World => validAddress_any x hx W
  have hwl := widthM_128 a
  obtain ⟨cp, hcp⟩ : ∃ c, (prefC a bits).toArray = c := ⟨_, rfl⟩
  obtain ⟨cx, hcx⟩ : ∃ c, x.cells.toArray = c := ⟨_, rfl⟩
  obtain ⟨ca, hca⟩ : ∃ c, a.cells.toArray = c := ⟨_, rfl⟩
  obtain ⟨vv, hvv⟩ : ∃ r, containsM a bits x = r := ⟨_, rfl⟩
  obtain ⟨va, hvva⟩ : ∃ r, validM a bits = r := ⟨_, rfl⟩
  obtain ⟨sx, hsxx⟩ : ∃ r, soundM x = r := ⟨_, rfl⟩
  simp only [hcp, hcx, hvv, hvva, hsxx] at hcf0 hvf hva hsx ⊢
  have HM := Lib.hid (show Mem w [blkE (w.heap.size + 1) 26 x.cells, blkE w.heap.size 28 (prefC a bits)] ((w.alloc (.cells cp 28)).alloc (.cells cx 26)) from ((Mem.nil w).alloc rfl 28 cp (prefC a bits) hcp.symm).alloc (by simp) 26 cx x.cells hcx.symm)
  have HO := Lib.hid h
  have HOX := Lib.hid hx
  have HCA := Lib.hid hca
  have HCX := Lib.hid hcx
  have HCP := Lib.hid hcp
  clear hvv hvva hsxx
  go_enter Try.func46, Try.ntmps46
  go_upto_region 1 with fail
  generalize ((w.alloc (.cells cp 28)).alloc (.cells cx 26)) = w1 at HM ⊢
  cases va with
  | false =>
    have HVA := Lib.hid hva
    have HR := Lib.hid (show vv = false by rw [hcf0]; simp)
    clear hva hsx hcf0 hvf h hx hwl hca hcx hcp
    refine wp_region_held_drew (S := fun W' => Mem w [blkE (w.heap.size + 1) 26 x.cells, blkE w.heap.size 28 (prefC a bits)] W') (by kernel_rfl) ((HM.out).drew) (fun hHeld => ?_)
    replace HM := Lib.hid HM.out.drew
    generalize w1.drew = wd1 at HM hHeld ⊢
    refine take_first (v := .agg cp) 0 rfl (by kernel_rfl) (by kernel_rfl) (by kernel_rfl) (fun _ _ _ h => h) (by rw [← HCP.out]; exact yields_load_obj (by rfl) 28 (.tmp 2) rfl w.heap.size 0 rfl (prefC a bits) (fun w' hb => (Mem.blk hb 1 rfl).all) _ Try.underlying28 rfl (pref_cellsOf _ HO.out _)) (by assumption) ?_
    (try simp only [Act.put, List.setIfInBounds_toArray, List.set_cons_zero, List.set_cons_succ])
    refine step_one 1 rfl (by kernel_rfl) (fun K hK => ?_)
    clear hHeld
    go_simp
    refine (HVA.out _).mono ?_
    rintro e wy2 ⟨rfl, hb⟩
    replace HM := Lib.hid (show Mem w [blkE (w.heap.size + 1) 26 x.cells, blkE w.heap.size 28 (prefC a bits)] wy2 from HM.out.below hb)
    clear hb
    go_wp2_with fail
    refine hK.out _ _ (HM.out) (fun hHeld => ?_)
    clear hK K
    (try simp only [Act.put, List.setIfInBounds_toArray, List.set_cons_zero, List.set_cons_succ])
    refine take_first (v := ?_) 2 rfl (by kernel_rfl) (by kernel_rfl) (by kernel_rfl) (fun _ _ _ h => h) (Or.inl ⟨by rfl, ?_⟩) (by assumption) ?_
    rotate_left
    · (intro w hSw; (try dsimp only at hSw); go_simp; try with_reducible rfl)
    (try simp only [Act.put, List.setIfInBounds_toArray, List.set_cons_zero, List.set_cons_succ])
    refine take_first (v := undef) 3 rfl (by kernel_rfl) (by kernel_rfl) (by kernel_rfl) (fun _ _ _ h => h) (Or.inr ⟨by rfl, rfl⟩) (by assumption) ?_
    (try simp only [Act.put, List.setIfInBounds_toArray, List.set_cons_zero, List.set_cons_succ])
    refine take_first (v := undef) 4 rfl (by kernel_rfl) (by kernel_rfl) (by kernel_rfl) (fun _ _ _ h => h) (Or.inr ⟨by rfl, rfl⟩) (by assumption) ?_
    (try simp only [Act.put, List.setIfInBounds_toArray, List.set_cons_zero, List.set_cons_succ])
    refine take_first (v := ?_) 5 rfl (by kernel_rfl) (by kernel_rfl) (by kernel_rfl) (fun _ _ _ h => h) (Or.inl ⟨by rfl, ?_⟩) (by assumption) ?_
    rotate_left
    · (intro w hSw; (try dsimp only at hSw); go_simp; try with_reducible rfl)
    (try simp only [Act.put, List.setIfInBounds_toArray, List.set_cons_zero, List.set_cons_succ])
    refine take_first (v := ?_) 6 rfl (by kernel_rfl) (by kernel_rfl) (by kernel_rfl) (fun _ _ _ h => h) (Or.inl ⟨by rfl, ?_⟩) (by assumption) ?_
    rotate_left
    · (intro w hSw; (try dsimp only at hSw); go_simp; try with_reducible rfl)
    (try simp only [Act.put, List.setIfInBounds_toArray, List.set_cons_zero, List.set_cons_succ])
    refine take_first (v := undef) 7 rfl (by kernel_rfl) (by kernel_rfl) (by kernel_rfl) (fun _ _ _ h => h) (Or.inr ⟨by rfl, rfl⟩) (by assumption) ?_
    (try simp only [Act.put, List.setIfInBounds_toArray, List.set_cons_zero, List.set_cons_succ])
    refine take_first (v := undef) 8 rfl (by kernel_rfl) (by kernel_rfl) (by kernel_rfl) (fun _ _ _ h => h) (Or.inr ⟨by rfl, rfl⟩) (by assumption) ?_
    (try simp only [Act.put, List.setIfInBounds_toArray, List.set_cons_zero, List.set_cons_succ])
    refine take_first (v := undef) 9 rfl (by kernel_rfl) (by kernel_rfl) (by kernel_rfl) (fun _ _ _ h => h) (Or.inr ⟨by rfl, rfl⟩) (by assumption) ?_
    (try simp only [Act.put, List.setIfInBounds_toArray, List.set_cons_zero, List.set_cons_succ])
    refine take_first (v := undef) 10 rfl (by kernel_rfl) (by kernel_rfl) (by kernel_rfl) (fun _ _ _ h => h) (Or.inr ⟨by rfl, rfl⟩) (by assumption) ?_
    (try simp only [Act.put, List.setIfInBounds_toArray, List.set_cons_zero, List.set_cons_succ])
    refine take_first (v := undef) 11 rfl (by kernel_rfl) (by kernel_rfl) (by kernel_rfl) (fun _ _ _ h => h) (Or.inr ⟨by rfl, rfl⟩) (by assumption) ?_
    (try simp only [Act.put, List.setIfInBounds_toArray, List.set_cons_zero, List.set_cons_succ])
    refine take_first (v := undef) 12 rfl (by kernel_rfl) (by kernel_rfl) (by kernel_rfl) (fun _ _ _ h => h) (Or.inr ⟨by rfl, rfl⟩) (by assumption) ?_
    (try simp only [Act.put, List.setIfInBounds_toArray, List.set_cons_zero, List.set_cons_succ])
    refine take_first (v := undef) 13 rfl (by kernel_rfl) (by kernel_rfl) (by kernel_rfl) (fun _ _ _ h => h) (Or.inr ⟨by rfl, rfl⟩) (by assumption) ?_
    (try simp only [Act.put, List.setIfInBounds_toArray, List.set_cons_zero, List.set_cons_succ])
    refine take_first (v := ?_) 14 rfl (by kernel_rfl) (by kernel_rfl) (by kernel_rfl) (fun _ _ _ h => h) (Or.inl ⟨by rfl, ?_⟩) (by assumption) ?_
    rotate_left
    · (intro w hSw; (try dsimp only at hSw); go_simp; try with_reducible rfl)
    (try simp only [Act.put, List.setIfInBounds_toArray, List.set_cons_zero, List.set_cons_succ])
    refine take_first (v := ?_) 15 rfl (by kernel_rfl) (by kernel_rfl) (by kernel_rfl) (fun _ _ _ h => h) (Or.inl ⟨by rfl, ?_⟩) (by assumption) ?_
    rotate_left
    · (intro w hSw; (try dsimp only at hSw); go_simp; try with_reducible rfl)
    (try simp only [Act.put, List.setIfInBounds_toArray, List.set_cons_zero, List.set_cons_succ])
    refine wpAnyH_done (by kernel_rfl) ?_ _
    clear hHeld
    go_wp2
    go_ret
    exact ⟨by first | rfl | (rw [HR.out]; rfl), HM.out.bel⟩
  | true =>
    cases sx with
    | false =>
      have HVA := Lib.hid hva
      have HSX := Lib.hid hsx
      have HR := Lib.hid (show vv = false by rw [hcf0]; simp)
      clear hva hsx hcf0 hvf h hx hwl hca hcx hcp
      refine wp_region_held_drew (S := fun W' => Mem w [blkE (w.heap.size + 1) 26 x.cells, blkE w.heap.size 28 (prefC a bits)] W') (by kernel_rfl) ((HM.out).drew) (fun hHeld => ?_)
      replace HM := Lib.hid HM.out.drew
      generalize w1.drew = wd1 at HM hHeld ⊢
      refine take_first (v := .agg cp) 0 rfl (by kernel_rfl) (by kernel_rfl) (by kernel_rfl) (fun _ _ _ h => h) (by rw [← HCP.out]; exact yields_load_obj (by rfl) 28 (.tmp 2) rfl w.heap.size 0 rfl (prefC a bits) (fun w' hb => (Mem.blk hb 1 rfl).all) _ Try.underlying28 rfl (pref_cellsOf _ HO.out _)) (by assumption) ?_
      (try simp only [Act.put, List.setIfInBounds_toArray, List.set_cons_zero, List.set_cons_succ])
      refine step_one 1 rfl (by kernel_rfl) (fun K hK => ?_)
      clear hHeld
      go_simp
      refine (HVA.out _).mono ?_
      rintro e wy2 ⟨rfl, hb⟩
      replace HM := Lib.hid (show Mem w [blkE (w.heap.size + 1) 26 x.cells, blkE w.heap.size 28 (prefC a bits)] wy2 from HM.out.below hb)
      clear hb
      go_wp2_with fail
      refine hK.out _ _ (HM.out) (fun hHeld => ?_)
      clear hK K
      (try simp only [Act.put, List.setIfInBounds_toArray, List.set_cons_zero, List.set_cons_succ])
      refine take_first (v := ?_) 2 rfl (by kernel_rfl) (by kernel_rfl) (by kernel_rfl) (fun _ _ _ h => h) (Or.inl ⟨by rfl, ?_⟩) (by assumption) ?_
      rotate_left
      · (intro w hSw; (try dsimp only at hSw); go_simp; try with_reducible rfl)
      (try simp only [Act.put, List.setIfInBounds_toArray, List.set_cons_zero, List.set_cons_succ])
      refine take_first (v := .agg cx) 3 rfl (by kernel_rfl) (by kernel_rfl) (by kernel_rfl) (fun _ _ _ h => h) (by rw [← HCX.out]; exact yields_load_obj (by rfl) 26 (.tmp 3) rfl (w.heap.size + 1) 0 rfl x.cells (fun w' hb => (Mem.blk hb 0 rfl).all) _ Try.underlying26 rfl (addr_cellsOf _ HOX.out)) (by assumption) ?_
      (try simp only [Act.put, List.setIfInBounds_toArray, List.set_cons_zero, List.set_cons_succ])
      refine step_one 4 rfl (by kernel_rfl) (fun K hK => ?_)
      clear hHeld
      go_simp
      refine (HSX.out _).mono ?_
      rintro e wy3 ⟨rfl, hb⟩
      replace HM := Lib.hid (show Mem w [blkE (w.heap.size + 1) 26 x.cells, blkE w.heap.size 28 (prefC a bits)] wy3 from HM.out.below hb)
      clear hb
      go_wp2_with fail
      refine hK.out _ _ (HM.out) (fun hHeld => ?_)
      clear hK K
      (try simp only [Act.put, List.setIfInBounds_toArray, List.set_cons_zero, List.set_cons_succ])
      refine take_first (v := ?_) 5 rfl (by kernel_rfl) (by kernel_rfl) (by kernel_rfl) (fun _ _ _ h => h) (Or.inl ⟨by rfl, ?_⟩) (by assumption) ?_
      rotate_left
      · (intro w hSw; (try dsimp only at hSw); go_simp; try with_reducible rfl)
      (try simp only [Act.put, List.setIfInBounds_toArray, List.set_cons_zero, List.set_cons_succ])
      refine take_first (v := ?_) 6 rfl (by kernel_rfl) (by kernel_rfl) (by kernel_rfl) (fun _ _ _ h => h) (Or.inl ⟨by rfl, ?_⟩) (by assumption) ?_
      rotate_left
      · (intro w hSw; (try dsimp only at hSw); go_simp; try with_reducible rfl)
      (try simp only [Act.put, List.setIfInBounds_toArray, List.set_cons_zero, List.set_cons_succ])
      refine take_first (v := undef) 7 rfl (by kernel_rfl) (by kernel_rfl) (by kernel_rfl) (fun _ _ _ h => h) (Or.inr ⟨by rfl, rfl⟩) (by assumption) ?_
      (try simp only [Act.put, List.setIfInBounds_toArray, List.set_cons_zero, List.set_cons_succ])
      refine take_first (v := undef) 8 rfl (by kernel_rfl) (by kernel_rfl) (by kernel_rfl) (fun _ _ _ h => h) (Or.inr ⟨by rfl, rfl⟩) (by assumption) ?_
      (try simp only [Act.put, List.setIfInBounds_toArray, List.set_cons_zero, List.set_cons_succ])
      refine take_first (v := undef) 9 rfl (by kernel_rfl) (by kernel_rfl) (by kernel_rfl) (fun _ _ _ h => h) (Or.inr ⟨by rfl, rfl⟩) (by assumption) ?_
      (try simp only [Act.put, List.setIfInBounds_toArray, List.set_cons_zero, List.set_cons_succ])
      refine take_first (v := undef) 10 rfl (by kernel_rfl) (by kernel_rfl) (by kernel_rfl) (fun _ _ _ h => h) (Or.inr ⟨by rfl, rfl⟩) (by assumption) ?_
      (try simp only [Act.put, List.setIfInBounds_toArray, List.set_cons_zero, List.set_cons_succ])
      refine take_first (v := undef) 11 rfl (by kernel_rfl) (by kernel_rfl) (by kernel_rfl) (fun _ _ _ h => h) (Or.inr ⟨by rfl, rfl⟩) (by assumption) ?_
      (try simp only [Act.put, List.setIfInBounds_toArray, List.set_cons_zero, List.set_cons_succ])
      refine take_first (v := undef) 12 rfl (by kernel_rfl) (by kernel_rfl) (by kernel_rfl) (fun _ _ _ h => h) (Or.inr ⟨by rfl, rfl⟩) (by assumption) ?_
      (try simp only [Act.put, List.setIfInBounds_toArray, List.set_cons_zero, List.set_cons_succ])
      refine take_first (v := undef) 13 rfl (by kernel_rfl) (by kernel_rfl) (by kernel_rfl) (fun _ _ _ h => h) (Or.inr ⟨by rfl, rfl⟩) (by assumption) ?_
      (try simp only [Act.put, List.setIfInBounds_toArray, List.set_cons_zero, List.set_cons_succ])
      refine take_first (v := ?_) 14 rfl (by kernel_rfl) (by kernel_rfl) (by kernel_rfl) (fun _ _ _ h => h) (Or.inl ⟨by rfl, ?_⟩) (by assumption) ?_
      rotate_left
      · (intro w hSw; (try dsimp only at hSw); go_simp; try with_reducible rfl)
      (try simp only [Act.put, List.setIfInBounds_toArray, List.set_cons_zero, List.set_cons_succ])
      refine take_first (v := ?_) 15 rfl (by kernel_rfl) (by kernel_rfl) (by kernel_rfl) (fun _ _ _ h => h) (Or.inl ⟨by rfl, ?_⟩) (by assumption) ?_
      rotate_left
      · (intro w hSw; (try dsimp only at hSw); go_simp; try with_reducible rfl)
      (try simp only [Act.put, List.setIfInBounds_toArray, List.set_cons_zero, List.set_cons_succ])
      refine wpAnyH_done (by kernel_rfl) ?_ _
      clear hHeld
      go_wp2
      go_ret
      exact ⟨by first | rfl | (rw [HR.out]; rfl), HM.out.bel⟩
    | true =>
      have HVA := Lib.hid hva
      have HSX := Lib.hid hsx
      have hv2 := hvf.symm
      rw [Bool.and_eq_true, Bool.and_eq_true, decide_eq_true_iff, decide_eq_true_iff] at hv2
      rw [Bool.true_and, Bool.true_and] at hcf0
      obtain ⟨k, hk⟩ : ∃ k : Nat, bits = (k : Int) := ⟨bits.toNat, by omega⟩
      have hfs := fun W : World => first_any x hx k (by omega) W
      have heq := fun W : World => addr_eq (firstM x k) a (firstM_ok x hx _) h W
      have hkn : bits.toNat = k := by omega
      rw [hkn] at hcf0
      obtain ⟨cf, hcf⟩ : ∃ c, (firstM x k).cells.toArray = c := ⟨_, rfl⟩
      rw [← hcf0] at heq
      rw [← hk] at hfs
      simp only [hca, hcx, hcf] at hfs heq
      have HFS := Lib.hid hfs
      have HEQ := Lib.hid heq
      have HR := Lib.hid (Eq.refl vv)
      clear hva hsx hcf0 hvf h hx hwl hca hcx hcp hfs heq hv2 hkn hk hcf
      refine wp_region_held_drew (S := fun W' => Mem w [blkE (w.heap.size + 1) 26 x.cells, blkE w.heap.size 28 (prefC a bits)] W') (by kernel_rfl) ((HM.out).drew) (fun hHeld => ?_)
      replace HM := Lib.hid HM.out.drew
      generalize w1.drew = wd1 at HM hHeld ⊢
      refine take_first (v := .agg cp) 0 rfl (by kernel_rfl) (by kernel_rfl) (by kernel_rfl) (fun _ _ _ h => h) (by rw [← HCP.out]; exact yields_load_obj (by rfl) 28 (.tmp 2) rfl w.heap.size 0 rfl (prefC a bits) (fun w' hb => (Mem.blk hb 1 rfl).all) _ Try.underlying28 rfl (pref_cellsOf _ HO.out _)) (by assumption) ?_
      (try simp only [Act.put, List.setIfInBounds_toArray, List.set_cons_zero, List.set_cons_succ])
      refine step_one 1 rfl (by kernel_rfl) (fun K hK => ?_)
      clear hHeld
      go_simp
      refine (HVA.out _).mono ?_
      rintro e wy2 ⟨rfl, hb⟩
      replace HM := Lib.hid (show Mem w [blkE (w.heap.size + 1) 26 x.cells, blkE w.heap.size 28 (prefC a bits)] wy2 from HM.out.below hb)
      clear hb
      go_wp2_with fail
      refine hK.out _ _ (HM.out) (fun hHeld => ?_)
      clear hK K
      (try simp only [Act.put, List.setIfInBounds_toArray, List.set_cons_zero, List.set_cons_succ])
      refine take_first (v := ?_) 2 rfl (by kernel_rfl) (by kernel_rfl) (by kernel_rfl) (fun _ _ _ h => h) (Or.inl ⟨by rfl, ?_⟩) (by assumption) ?_
      rotate_left
      · (intro w hSw; (try dsimp only at hSw); go_simp; try with_reducible rfl)
      (try simp only [Act.put, List.setIfInBounds_toArray, List.set_cons_zero, List.set_cons_succ])
      refine take_first (v := .agg cx) 3 rfl (by kernel_rfl) (by kernel_rfl) (by kernel_rfl) (fun _ _ _ h => h) (by rw [← HCX.out]; exact yields_load_obj (by rfl) 26 (.tmp 3) rfl (w.heap.size + 1) 0 rfl x.cells (fun w' hb => (Mem.blk hb 0 rfl).all) _ Try.underlying26 rfl (addr_cellsOf _ HOX.out)) (by assumption) ?_
      (try simp only [Act.put, List.setIfInBounds_toArray, List.set_cons_zero, List.set_cons_succ])
      refine step_one 4 rfl (by kernel_rfl) (fun K hK => ?_)
      clear hHeld
      go_simp
      refine (HSX.out _).mono ?_
      rintro e wy3 ⟨rfl, hb⟩
      replace HM := Lib.hid (show Mem w [blkE (w.heap.size + 1) 26 x.cells, blkE w.heap.size 28 (prefC a bits)] wy3 from HM.out.below hb)
      clear hb
      go_wp2_with fail
      refine hK.out _ _ (HM.out) (fun hHeld => ?_)
      clear hK K
      (try simp only [Act.put, List.setIfInBounds_toArray, List.set_cons_zero, List.set_cons_succ])
      refine take_first (v := ?_) 5 rfl (by kernel_rfl) (by kernel_rfl) (by kernel_rfl) (fun _ _ _ h => h) (Or.inl ⟨by rfl, ?_⟩) (by assumption) ?_
      rotate_left
      · (intro w hSw; (try dsimp only at hSw); go_simp; try with_reducible rfl)
      (try simp only [Act.put, List.setIfInBounds_toArray, List.set_cons_zero, List.set_cons_succ])
      refine take_first (v := ?_) 6 rfl (by kernel_rfl) (by kernel_rfl) (by kernel_rfl) (fun _ _ _ h => h) (Or.inl ⟨by rfl, ?_⟩) (by assumption) ?_
      rotate_left
      · (intro w hSw; (try dsimp only at hSw); go_simp; try with_reducible rfl)
      (try simp only [Act.put, List.setIfInBounds_toArray, List.set_cons_zero, List.set_cons_succ])
      refine take_first (v := .agg cx) 7 rfl (by kernel_rfl) (by kernel_rfl) (by kernel_rfl) (fun _ _ _ h => h) (by rw [← HCX.out]; exact yields_load_obj (by rfl) 26 (.tmp 3) rfl (w.heap.size + 1) 0 rfl x.cells (fun w' hb => (Mem.blk hb 0 rfl).all) _ Try.underlying26 rfl (addr_cellsOf _ HOX.out)) (by assumption) ?_
      (try simp only [Act.put, List.setIfInBounds_toArray, List.set_cons_zero, List.set_cons_succ])
      refine take_first (v := ?_) 8 rfl (by kernel_rfl) (by kernel_rfl) (by kernel_rfl) (fun _ _ _ h => h) (Or.inl ⟨by rfl, ?_⟩) (by assumption) ?_
      rotate_left
      · (intro w hSw; (try dsimp only at hSw); go_simp; try with_reducible rfl)
      (try simp only [Act.put, List.setIfInBounds_toArray, List.set_cons_zero, List.set_cons_succ])
      refine take_first (v := ?_) 9 rfl (by kernel_rfl) (by kernel_rfl) (by kernel_rfl) (fun _ _ _ h => h) (Or.inl ⟨by rfl, ?_⟩) (by assumption) ?_
      rotate_left
      · (intro w hSw; (try dsimp only at hSw); have fb := (Mem.blk hSw 1 rfl).cell 17; rw [prefC_bits a HO.out bits] at fb; go_simp; try with_reducible rfl)
      (try simp only [Act.put, List.setIfInBounds_toArray, List.set_cons_zero, List.set_cons_succ])
      refine take_first (v := ?_) 11 rfl (by kernel_rfl) (by kernel_rfl) (by kernel_rfl) (fun _ _ _ h => h) (Or.inl ⟨by rfl, ?_⟩) (by assumption) ?_
      rotate_left
      · (intro w hSw; (try dsimp only at hSw); go_simp; try with_reducible rfl)
      (try simp only [Act.put, List.setIfInBounds_toArray, List.set_cons_zero, List.set_cons_succ])
      refine take_first (v := .agg ca) 12 rfl (by kernel_rfl) (by kernel_rfl) (by kernel_rfl) (fun _ _ _ h => h) (by rw [← HCA.out]; exact yields_load_obj (by rfl) 26 (.tmp 16) rfl w.heap.size 0 rfl a.cells (fun w' hb => by have h := (Mem.blk hb 1 rfl).sub 0 17; rw [prefC_addr a HO.out bits] at h; exact h) _ Try.underlying26 rfl (addr_cellsOf _ HO.out)) (by assumption) ?_
      (try simp only [Act.put, List.setIfInBounds_toArray, List.set_cons_zero, List.set_cons_succ])
      refine step_one 10 rfl (by kernel_rfl) (fun K hK => ?_)
      clear hHeld
      go_simp
      refine (HFS.out _).mono ?_
      rintro e wy4 ⟨rfl, hb⟩
      replace HM := Lib.hid (show Mem w [blkE (w.heap.size + 1) 26 x.cells, blkE w.heap.size 28 (prefC a bits)] wy4 from HM.out.below hb)
      clear hb
      go_wp2_with fail
      refine hK.out _ _ (HM.out) (fun hHeld => ?_)
      clear hK K
      (try simp only [Act.put, List.setIfInBounds_toArray, List.set_cons_zero, List.set_cons_succ])
      refine take_first (v := ?_) 13 rfl (by kernel_rfl) (by kernel_rfl) (by kernel_rfl) (fun _ _ _ h => h) (Or.inl ⟨by rfl, ?_⟩) (by assumption) ?_
      rotate_left
      · (intro w hSw; (try dsimp only at hSw); refine (run_eql_agg _ _ 26 26 15 17 ?_ cf ca vv w ?_ ?_ addr_noguard (HEQ.out w)).trans ?_ <;> first | with_reducible rfl | rfl)
      (try simp only [Act.put, List.setIfInBounds_toArray, List.set_cons_zero, List.set_cons_succ])
      refine take_first (v := ?_) 14 rfl (by kernel_rfl) (by kernel_rfl) (by kernel_rfl) (fun _ _ _ h => h) (Or.inl ⟨by rfl, ?_⟩) (by assumption) ?_
      rotate_left
      · (intro w hSw; (try dsimp only at hSw); go_simp; try with_reducible rfl)
      (try simp only [Act.put, List.setIfInBounds_toArray, List.set_cons_zero, List.set_cons_succ])
      refine take_first (v := ?_) 15 rfl (by kernel_rfl) (by kernel_rfl) (by kernel_rfl) (fun _ _ _ h => h) (Or.inl ⟨by rfl, ?_⟩) (by assumption) ?_
      rotate_left
      · (intro w hSw; (try dsimp only at hSw); go_simp; try with_reducible rfl)
      (try simp only [Act.put, List.setIfInBounds_toArray, List.set_cons_zero, List.set_cons_succ])
      refine wpAnyH_done (by kernel_rfl) ?_ _
      clear hHeld
      go_wp2
      go_ret
      exact ⟨by first | rfl | (rw [HR.out]; rfl), HM.out.bel⟩
end Go.Proofs.Ytnblofbbbkjhpaa
namespace Go.Proofs.Ytnblofbbbkjhpaa
open Go.RowKit

end Go.Proofs.Ytnblofbbbkjhpaa
namespace Go.Proofs.Ytnblofbbbkjhpaa
open Go.RowKit

theorem loadBytes_rd {P : Program} : ∀ (l : List UInt8) (w : World) (b off : Nat) (acc : ByteArray), (∀ j (h : j < l.length), w.cell? ⟨b, off + j, none⟩ = some (.int .u8 (l[j].toNat : Int))) →
    (Extern.Bytes.loadBytes ⟨b, off, none⟩ l.length acc).run P w = .ok ⟨acc.data ++ l.toArray⟩ w
  | [], w, b, off, acc, _ => by simp [Extern.Bytes.loadBytes]
  | x :: l, w, b, off, acc, h => by
    have h0 := h 0 (by simp)
    rw [Nat.add_zero] at h0
    have ih := loadBytes_rd (P := P) l w b (off + 1) (acc.push x) (fun j hj => by
      have := h (j + 1) (by simp; omega)
      rw [show off + 1 + j = off + (j + 1) by omega]
      simpa using this)
    have e1 : (Addr.add ⟨b, off, none⟩ 1) = ⟨b, off + 1, none⟩ := by simp [Go.WideShapes.add_plain]
    simp only [List.length_cons, Extern.Bytes.loadBytes, Sem.run_bind, run_load, h0, Result.andThen]
    simp only [List.getElem_cons_zero, Int.toNat_natCast, Nat.toUInt8_eq, UInt8.ofNat_toNat, e1]
    rw [ih]
    congr 1
    simp [ByteArray.push]
theorem bytesOf_rd {P : Program} {w : World} {B n c : Nat} {A : Option Addr} {l : List UInt8} (h : Rd w B A n l) : (Extern.Bytes.bytesOf (.slice A n c)).run P w = .ok ⟨l.toArray⟩ w := by
  rcases Nat.eq_zero_or_pos n with h0 | h0
  · have : l = [] := List.eq_nil_of_length_eq_zero (by rw [h.1, h0])
    subst this
    subst h0
    cases A with
    | none => simp [Extern.Bytes.bytesOf]; rfl
    | some a => simp [Extern.Bytes.bytesOf, Extern.Bytes.loadBytes]; rfl
  · obtain ⟨b, off, rfl, _, hc⟩ := h.at_ h0
    have := loadBytes_rd (P := P) l w b off .empty hc
    rw [h.1] at this
    simp [Extern.Bytes.bytesOf, this]
set_option maxRecDepth 100000 in
theorem compare_any (n m c d B B' : Nat) (A A' : Option Addr) (a b : List UInt8) (w : World) (ha : Rd w B A n a) (hb : Rd w B' A' m b) :
    Calls Try.prog 57 #[.slice A n c, .slice A' m d] w fun e w' => e = .returned (.int .i64 (Lib.compareBytes a b)) ∧ w = w' := by
  have hx : (callFunc 58 #[.slice A n c, .slice A' m d]).run Try.prog w = .ok (.value (.int .i64 (Lib.compareBytes a b))) w := by
    rw [run_callFunc_extern Try.func58 (by kernel_rfl) (by kernel_rfl) (by kernel_rfl) (e := Extern.BytealgCompare.compare) (by kernel_rfl)]
    have e1 : (Extern.BytealgCompare.compare #[.slice A n c, .slice A' m d]).run Try.prog w = .ok (.int .i64 (Lib.compareBytes a b)) w := by
      change Sem.run Try.prog (do pure (goInt (Extern.BytealgCompare.cmp (← Extern.Bytes.bytesOf (.slice A n c)) (← Extern.Bytes.bytesOf (.slice A' m d))))) w = _
      simp only [Sem.run_bind, Sem.run_pure, bytesOf_rd ha, bytesOf_rd hb, Result.andThen, Lib.cmp_eq]
      rfl
    rw [e1]
    rfl
  go_enter Try.func57, Try.ntmps57
  go_wp2
  go_ret
  exact ⟨rfl, rfl⟩
end Go.Proofs.Ytnblofbbbkjhpaa
namespace Go.Proofs.Ytnblofbbbkjhpaa
open Go.RowKit

theorem compare_less : ∀ (a b : List UInt8), decide (Lib.compareBytes a b < 0) = Op.bytesLess a b
  | [], [] => rfl
  | [], _ :: _ => rfl
  | _ :: _, [] => rfl
  | x :: a, y :: b => by
    have ih := compare_less a b
    unfold Lib.compareBytes Op.bytesLess
    by_cases h1 : x < y
    · rw [if_pos h1]; simp [h1]
    · by_cases h2 : y < x
      · have hne : (x == y) = false := by
          rw [beq_eq_false_iff_ne]
          intro e
          subst e
          exact h1 h2
        rw [if_neg h1, if_pos h2, hne]
        simp [h1]
      · have he : x = y := by
          apply UInt8.toNat.inj
          rw [UInt8.lt_iff_toNat_lt] at h1 h2
          omega
        subst he
        rw [if_neg h1, if_neg h2, ih]
        simp [h1]
set_option maxRecDepth 100000 in
set_option maxHeartbeats 4000000 in
theorem less_any (a b : AddrM) (ha : a.ok) (hb : b.ok) (w : World) :
    Calls Try.prog 55 #[.agg a.cells.toArray, .agg b.cells.toArray] w fun e w' => e = .returned (.bool (lessM a b)) ∧ Below w.heap.size w w' := by
  obtain ⟨ca, hca⟩ : ∃ x, a.cells.toArray = x := ⟨_, rfl⟩
  obtain ⟨cb, hcb⟩ : ∃ x, b.cells.toArray = x := ⟨_, rfl⟩
  rw [hca, hcb]
  have HM := Lib.hid (show Mem w [blkE (w.heap.size + 1) 26 b.cells, blkE w.heap.size 26 a.cells] ((w.alloc (.cells ca 26)).alloc (.cells cb 26)) from ((Mem.nil w).alloc rfl 26 ca a.cells hca.symm).alloc (by simp) 26 cb b.cells hcb.symm)
  have HOA := Lib.hid ha
  have HOB := Lib.hid hb
  have hcl := compare_less a.ip b.ip
  clear hca hcb ha hb
  go_enter Try.func55, Try.ntmps55
  go_upto_region 1 with fail
  generalize ((w.alloc (.cells ca 26)).alloc (.cells cb 26)) = w1 at HM ⊢
  have f1 := ((HM.out.blk 1 rfl).cell 0).trans (AddrM.six_cell a)
  have f2 := ((HM.out.blk 0 rfl).cell 0).trans (AddrM.six_cell b)
  by_cases h6 : a.six = b.six
  · have HE := Lib.hid (show decide (Lib.compareBytes a.ip b.ip < 0) = lessM a b by rw [lessM, if_pos h6, hcl])
    rw [h6] at f1
    have hne : (b.six != b.six) = false := by simp
    clear h6 hcl
    generalize b.six = sx at f1 f2 hne
    go_upto_region 3 with fail
    clear f1 f2 hne
    generalize w.heap.size = GA at HM ⊢
    refine wp_region_held_drew (S := fun W' => Mem w [blkE (GA + 1) 26 b.cells, blkE GA 26 a.cells] W') (by kernel_rfl) ((HM.out).drew) (fun hHeld => ?_)
    replace HM := Lib.hid HM.out.drew
    generalize w1.drew = wd1 at HM hHeld ⊢
    refine take_first (v := ?_) 0 rfl (by kernel_rfl) (by kernel_rfl) (by kernel_rfl) (fun _ _ _ h => h) (Or.inl ⟨by rfl, ?_⟩) (by assumption) ?_
    rotate_left
    · (intro w hSw; (try dsimp only at hSw); go_simp; try with_reducible rfl)
    (try simp only [Act.put, List.setIfInBounds_toArray, List.set_cons_zero, List.set_cons_succ])
    refine take_first (v := ?_) 1 rfl (by kernel_rfl) (by kernel_rfl) (by kernel_rfl) (fun _ _ _ h => h) (Or.inl ⟨by rfl, ?_⟩) (by assumption) ?_
    rotate_left
    · (intro w hSw; (try dsimp only at hSw); go_simp; try with_reducible rfl)
    (try simp only [Act.put, List.setIfInBounds_toArray, List.set_cons_zero, List.set_cons_succ])
    refine take_first (v := ?_) 2 rfl (by kernel_rfl) (by kernel_rfl) (by kernel_rfl) (fun _ _ _ h => h) (Or.inl ⟨by rfl, ?_⟩) (by assumption) ?_
    rotate_left
    · (intro w hSw; (try dsimp only at hSw); go_simp; try with_reducible rfl)
    (try simp only [Act.put, List.setIfInBounds_toArray, List.set_cons_zero, List.set_cons_succ])
    refine take_first (v := ?_) 3 rfl (by kernel_rfl) (by kernel_rfl) (by kernel_rfl) (fun _ _ _ h => h) (Or.inl ⟨by rfl, ?_⟩) (by assumption) ?_
    rotate_left
    · (intro w hSw; (try dsimp only at hSw); go_simp; try with_reducible rfl)
    (try simp only [Act.put, List.setIfInBounds_toArray, List.set_cons_zero, List.set_cons_succ])
    refine step_one 4 rfl (by kernel_rfl) (fun K hK => ?_)
    clear hHeld
    go_simp
    refine (compare_any 16 16 16 16 _ _ _ _ a.ip b.ip _ (AddrM.rd (HM.out.blk 1 rfl) HOA.out) (AddrM.rd (HM.out.blk 0 rfl) HOB.out)).mono ?_
    rintro e wy ⟨rfl, rfl⟩
    go_wp2_with fail
    refine hK.out _ _ (HM.out) (fun hHeld => ?_)
    clear hK K
    (try simp only [Act.put, List.setIfInBounds_toArray, List.set_cons_zero, List.set_cons_succ])
    refine take_first (v := ?_) 5 rfl (by kernel_rfl) (by kernel_rfl) (by kernel_rfl) (fun _ _ _ h => h) (Or.inl ⟨by rfl, ?_⟩) (by assumption) ?_
    rotate_left
    · (intro w hSw; (try dsimp only at hSw); go_simp; try with_reducible rfl)
    (try simp only [Act.put, List.setIfInBounds_toArray, List.set_cons_zero, List.set_cons_succ])
    refine take_first (v := ?_) 6 rfl (by kernel_rfl) (by kernel_rfl) (by kernel_rfl) (fun _ _ _ h => h) (Or.inl ⟨by rfl, ?_⟩) (by assumption) ?_
    rotate_left
    · (intro w hSw; (try dsimp only at hSw); go_simp; try with_reducible rfl)
    (try simp only [Act.put, List.setIfInBounds_toArray, List.set_cons_zero, List.set_cons_succ])
    refine wpAnyH_done (by kernel_rfl) ?_ _
    have HB := Lib.hid HM.out.bel
    clear HM hHeld
    go_wp2
    go_ret
    exact ⟨by have h := HE.out; simp at h ⊢; exact h, HB.out⟩
  · have HR := Lib.hid (show lessM a b = b.six by rw [lessM, if_neg h6]; revert h6; cases a.six <;> cases b.six <;> simp)
    clear hcl
    generalize a.six = s1 at f1 h6
    generalize b.six = s2 at f2 h6 HR
    have hc : (s1 = true ∧ s2 = false) ∨ (s1 = false ∧ s2 = true) := by revert h6; cases s1 <;> cases s2 <;> simp
    clear h6
    rcases hc with ⟨rfl, rfl⟩ | ⟨rfl, rfl⟩
    · go_wp2
      go_ret
      exact ⟨by first | rfl | (rw [HR.out]; rfl), HM.out.bel⟩
    · go_wp2
      go_ret
      exact ⟨by first | rfl | (rw [HR.out]; rfl), HM.out.bel⟩
end Go.Proofs.Ytnblofbbbkjhpaa
namespace Go.Proofs.Ytnblofbbbkjhpaa
open Go.RowKit

set_option maxRecDepth 100000 in
set_option maxHeartbeats 4000000 in
theorem before_any (a b : AddrM) (i j : Int) (ha : a.ok) (hb : b.ok) (w : World) :
    Calls Try.prog 44 #[.agg (prefC a i).toArray, .agg (prefC b j).toArray] w fun e w' => e = .returned (.bool (befM a i b j)) ∧ Below w.heap.size w w' := by
  have HL := Lib.hid (less_any a b ha hb)
  have HE := Lib.hid (addr_eqd a b ha hb)
  have HV := Lib.hid (show befM a i b j = if a = b then decide (i < j) else lessM a b from rfl)
  obtain ⟨ca, hca⟩ : ∃ z, a.cells.toArray = z := ⟨_, rfl⟩
  obtain ⟨cb, hcb⟩ : ∃ z, b.cells.toArray = z := ⟨_, rfl⟩
  obtain ⟨pa, hpa⟩ : ∃ z, (prefC a i).toArray = z := ⟨_, rfl⟩
  obtain ⟨pb, hpb⟩ : ∃ z, (prefC b j).toArray = z := ⟨_, rfl⟩
  rw [hca, hcb] at HL HE
  rw [hpa, hpb]
  have HUA := Lib.hid (addr_cellsOf a ha)
  have HUB := Lib.hid (addr_cellsOf b hb)
  have hm := ((Mem.nil w).alloc rfl 28 pa (prefC a i) hpa.symm).alloc (g := w.heap.size + 1) (by simp) 28 pb (prefC b j) hpb.symm
  have HM := Lib.hid hm
  have HCA := Lib.hid hca
  have HCB := Lib.hid hcb
  have HOA := Lib.hid ha
  have HOB := Lib.hid hb
  clear hca hcb hpa hpb hm ha hb
  go_enter Try.func44, Try.ntmps44
  go_upto_region 1 with fail
  generalize (w.alloc (.cells pa 28)).alloc (.cells pb 28) = w1 at HM ⊢
  by_cases hab : a = b
  · replace HV := Lib.hid (HV.out.trans (if_pos hab))
    rw [decide_eq_true hab] at HE
    have fi := pref_bits_at (HM.out.blk 1 rfl).all HOA.out
    have fj := pref_bits_at (HM.out.blk 0 rfl).all HOB.out
    clear hab
    go_wp2_with (first | (refine wpList_load_obj rfl 26 (.tmp 5) rfl w.heap.size 0 rfl a.cells (prefA_at (HM.out.blk 1 rfl).all) _ Try.underlying26 rfl HUA.out ?_; rw [HCA.out]) | (refine wpList_load_obj rfl 26 (.tmp 7) rfl (w.heap.size + 1) 0 rfl b.cells (prefA_at (HM.out.blk 0 rfl).all) _ Try.underlying26 rfl HUB.out ?_; rw [HCB.out]) | (refine wpList_eql_agg (by rfl) 26 26 6 8 rfl ca cb true rfl rfl addr_noguard (HE.out _) ?_))
    go_ret
    exact ⟨by rw [HV.out]; rfl, HM.out.bel⟩
  · replace HV := Lib.hid (HV.out.trans (if_neg hab))
    rw [decide_eq_false hab] at HE
    clear hab
    go_wp2_with (first | (refine wpList_load_obj rfl 26 (.tmp 5) rfl w.heap.size 0 rfl a.cells (prefA_at (HM.out.blk 1 rfl).all) _ Try.underlying26 rfl HUA.out ?_; rw [HCA.out]) | (refine wpList_load_obj rfl 26 (.tmp 7) rfl (w.heap.size + 1) 0 rfl b.cells (prefA_at (HM.out.blk 0 rfl).all) _ Try.underlying26 rfl HUB.out ?_; rw [HCB.out]) | (refine wpList_eql_agg (by rfl) 26 26 6 8 rfl ca cb false rfl rfl addr_noguard (HE.out _) ?_) | (refine wpList_load_obj rfl 26 (.tmp 15) rfl w.heap.size 0 rfl a.cells (prefA_at (HM.out.blk 1 rfl).all) _ Try.underlying26 rfl HUA.out ?_; rw [HCA.out]) | (refine wpList_load_obj rfl 26 (.tmp 17) rfl (w.heap.size + 1) 0 rfl b.cells (prefA_at (HM.out.blk 0 rfl).all) _ Try.underlying26 rfl HUB.out ?_; rw [HCB.out]))
    refine (HL.out _).mono ?_
    rintro e w2 ⟨rfl, hb⟩
    replace HM := Lib.hid (HM.out.below hb)
    clear hb
    go_wp2
    go_ret
    exact ⟨by rw [HV.out]; rfl, HM.out.bel⟩
end Go.Proofs.Ytnblofbbbkjhpaa
namespace Go.Proofs.Ytnblofbbbkjhpaa
open Go.RowKit

set_option maxRecDepth 100000 in
set_option maxHeartbeats 8000000 in
theorem place_any (A : Option Addr) (n c : Nat) (l : List RouteM) (hn : n ≤ 1000) (a : AddrM) (bits : Int) (hoa : a.ok) (w : World) (ha : RtRd w w.heap.size A n l) :
    Calls Try.prog 37 #[.slice A n c, .agg (prefC a bits).toArray] w fun e w' => e = .returned (.int .i64 (aheadM a bits l : Int)) ∧ Below w.heap.size w w' := by
  have HA := Lib.hid ha
  have HU := Lib.hid (pref_cellsOf' a hoa bits)
  have HOA := Lib.hid hoa
  obtain ⟨pa, hpa⟩ : ∃ z, (prefC a bits).toArray = z := ⟨_, rfl⟩
  rw [hpa]
  have HM := Lib.hid ((Lows.nil w).alloc 28 pa (prefC a bits) hpa.symm)
  have HPA := Lib.hid hpa
  clear ha hpa hoa
  go_enter Try.func37, Try.ntmps37
  go_upto_region 1 with fail
  generalize w.alloc (.cells pa 28) = w1 at HM ⊢
  go_wp2_with fail
  go_loopw [9] (fun i wr => ∃ j : Nat, j ≤ n ∧ i = .int .i64 (j : Int) ∧ j ≤ aheadM a bits l ∧ Lows w [blkL w.heap.size 28 (prefC a bits)] wr) (fun i _ => n - (intOf i).toNat)
  case atStart => exact ⟨0, Nat.zero_le _, rfl, Nat.zero_le _, HM.out⟩
  case round =>
    clear HM
    obtain ⟨j, hj, rfl, hja, hM⟩ := hrel
    have HM := Lib.hid hM
    have HJA := Lib.hid hja
    clear hM hja
    by_cases hjn : j < n
    · have d1 : decide ((j : Int) < (n : Int)) = true := by simp; omega
      obtain ⟨b, off, rfl⟩ := HA.out.1.addr (by omega)
      obtain ⟨r, hr⟩ : ∃ r, l[j]? = some r := ⟨l[j]'(by rw [HA.out.len]; exact hjn), List.getElem?_eq_getElem _⟩
      have HOK := Lib.hid (HA.out.ok hr)
      have hat := HA.out.at j r hr
      have HLA := Lib.hid (hat.2.mono HM.out.bel hat.1)
      have hst := aheadM_step a bits l j HJA.out r hr
      have hbf := before_any a r.a bits r.bits HOA.out HOK.out.1
      obtain ⟨y, hy⟩ : ∃ y, befM a bits r.a r.bits = y := ⟨_, rfl⟩
      obtain ⟨rc, hrc⟩ : ∃ z, r.cells.toArray = z := ⟨_, rfl⟩
      obtain ⟨rp, hrp⟩ : ∃ z, (prefC r.a r.bits).toArray = z := ⟨_, rfl⟩
      rw [hrp, HPA.out, hy] at hbf
      rw [hy] at hst
      have HST := Lib.hid hst
      have HBF := Lib.hid hbf
      have HRC := Lib.hid hrc
      have HRP := Lib.hid hrp
      clear hat hr hst hbf hrc hrp hy
      have HZ := Lib.hid (Blk.new wr 37 routeZ)
      go_upto_region 4 with (first | (refine wpList_load_obj rfl 37 (.tmp 12) rfl b _ rfl r.cells HLA.out _ Try.underlying37 rfl (route_cellsOf r HOK.out) ?_; rw [HRC.out]) | (refine wpList_store_obj rfl 37 (.tmp 6) (.tmp 13) rfl wr.heap.size 0 r.cells rfl (by show Value.agg rc = _; rw [HRC.out]) 37 routeZ HZ.out (route_cellsOf r HOK.out) (by rw [RouteM.cells_length HOK.out, routeZ_length]; omega) (route_one r) ?_; intro w4 hb4 hg4))
      rw [setL_all routeZ r.cells (by rw [RouteM.cells_length HOK.out, routeZ_length])] at hb4
      have HM4 := Lib.hid (HM.out.below (below_fresh hg4))
      have HP := Lib.hid hb4
      clear hb4 hg4 HM HZ d1 HLA
      generalize wr.heap.size = P1 at HP ⊢
      go_wp2_with (first | (refine wpList_load_obj rfl 28 (.tmp 3) rfl w.heap.size 0 rfl (prefC a bits) ((HM4.out.blk 0 rfl).all) _ Try.underlying28 rfl HU.out ?_; rw [HPA.out]) | (refine wpList_load_obj rfl 28 (.tmp 15) rfl P1 0 rfl (prefC r.a r.bits) (route_pref HP.out.all) _ Try.underlying28 rfl (pref_cellsOf' r.a HOK.out.1 r.bits) ?_; rw [HRP.out]))
      refine (HBF.out _).mono ?_
      rintro e w5 ⟨rfl, hb⟩
      have HM5 := Lib.hid (HM4.out.below hb)
      clear hb HM4 HP
      cases y with
      | true =>
        have HE := Lib.hid (HST.out.2 (by simp))
        go_wp2
        go_ret
        exact ⟨by rw [HE.out]; rfl, HM5.out.bel⟩
      | false =>
        go_wp2_with fail
        go_roundw
        case rel => exact ⟨j + 1, by omega, by go_num, HST.out.1 (by simp), HM5.out⟩
        case measure => simp [intOf]; omega
    · obtain rfl : n = j := by omega
      have d1 : decide ((n : Int) < (n : Int)) = false := by simp
      have HE := Lib.hid (show aheadM a bits l = n from Nat.le_antisymm (by rw [← HA.out.len]; exact aheadM_le a bits l) HJA.out)
      have HF := Lib.hid HM.out.bel
      clear HM HJA
      go_wp2
      go_ret
      exact ⟨by rw [HE.out]; rfl, HF.out⟩
end Go.Proofs.Ytnblofbbbkjhpaa
namespace Go.Proofs.Ytnblofbbbkjhpaa
open Go.RowKit

set_option maxRecDepth 100000 in
set_option maxHeartbeats 16000000 in
theorem rtIdx_any (A : Option Addr) (n c : Nat) (os : List (List Value)) (hn : n ≤ 1000000) (F : Nat) (lb : Array Value) (hE : ∀ (args : Array Value) (W : World), (callFunc F args).run Try.prog W = .ok (.enter F args) W) (p : List Value → Bool) (B : Nat) (w : World) (hB : B ≤ w.heap.size) (hr : RdRow w w.heap.size A 50 n os) (hf : PredB Try.prog F lb p B w os) :
    Calls Try.prog 34 #[.slice A n c, .func (.func F) #[] lb] w fun e w' => e = .returned (.int .i64 (idxM p os)) ∧ Below w.heap.size w w' := by
  have HR := Lib.hid hr
  have HF := Lib.hid hf
  have HB := Lib.hid hB
  clear hr hf hB
  go_enter Try.func34, Try.ntmps34
  go_wp2_with fail
  go_loopw [8] (fun i wr => ∃ j : Nat, j ≤ n ∧ i = .int .i64 (j : Int) ∧ Below w.heap.size w wr ∧ ∀ (q : Nat) x, q < j → os[q]? = some x → p x = false) (fun i _ => n - (intOf i).toNat)
  case atStart => exact ⟨0, Nat.zero_le _, rfl, Below.refl _ _, fun q _ h => absurd h (Nat.not_lt_zero _)⟩
  case round =>
    obtain ⟨j, hj, rfl, hW, hno⟩ := hrel
    have HW := Lib.hid hW
    have HNO := Lib.hid hno
    clear hW hno
    by_cases hjn : j < n
    · have d1 : decide ((j : Int) < (n : Int)) = true := by simp; omega
      obtain ⟨b, off, rfl⟩ := HR.out.addr (by omega)
      obtain ⟨o, ho⟩ : ∃ o, os[j]? = some o := ⟨os[j]'(by rw [HR.out.1]; exact hjn), List.getElem?_eq_getElem _⟩
      have hat := HR.out.at j o ho
      have HLA := Lib.hid (show At wr b (off + j * 50) o from fun q v hv => (World.cell?_of_block (HW.out.block b hat.1)).trans (hat.2 q v hv))
      have HU := Lib.hid (rt_size o (HR.out.2.1 o (List.mem_of_getElem? ho)))
      have hcall := HF.out o (List.mem_of_getElem? ho) wr (HW.out.mono HB.out)
      obtain ⟨oc, hoc⟩ : ∃ z, o.toArray = z := ⟨_, rfl⟩
      rw [hoc] at hcall
      obtain ⟨y, hy⟩ : ∃ y, p o = y := ⟨_, rfl⟩
      rw [hy] at hcall
      have HOC := Lib.hid hoc
      have HC := Lib.hid hcall
      have HJO := Lib.hid (And.intro ho hy)
      clear hat ho hcall hoc hy
      go_wp2_with (first | (refine wpList_load_obj rfl 37 (.tmp 14) rfl b _ rfl o HLA.out _ Try.underlying37 rfl HU.out ?_; rw [HOC.out]))
      refine HC.out.mono ?_
      rintro e w2 ⟨rfl, hb⟩
      have HW2 := Lib.hid (HW.out.trans (hb.mono HW.out.size))
      clear hb HW HC HLA
      cases y with
      | true =>
        go_wp2
        go_ret
        exact ⟨by rw [idxM_some HJO.out.1 HJO.out.2 HNO.out]; rfl, HW2.out⟩
      | false =>
        go_wp2_with fail
        go_roundw
        case rel => exact ⟨j + 1, by omega, by go_num, HW2.out, fun q x hq hx => by
          rcases Nat.lt_or_ge q j with h | h
          · exact HNO.out q x h hx
          · obtain rfl : q = j := by omega
            have e := HJO.out.1.symm.trans hx
            injection e with e
            rw [← e]
            exact HJO.out.2⟩
        case measure => simp [intOf]; omega
    · obtain rfl : j = n := by omega
      have d1 : decide ((j : Int) < (j : Int)) = false := by simp
      have HF2 := Lib.hid HW.out
      have HX := Lib.hid (idxM_none (all_false HR.out.1 HNO.out))
      clear HW HNO
      go_wp2
      go_ret
      exact ⟨by rw [HX.out]; rfl, HF2.out⟩
end Go.Proofs.Ytnblofbbbkjhpaa
