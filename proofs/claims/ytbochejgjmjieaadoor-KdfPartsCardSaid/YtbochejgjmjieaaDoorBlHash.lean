/-
  The contracts of the reference's Sum for every size, and of Hash and Code.
-/
import Derived.Test.YtbochejgjmjieaaDoorCells32
import Derived.Test.YtbochejgjmjieaaDoorBlSum
import Derived.Test.YtbochejgjmjieaaDoorRefJoin
namespace Go.Proofs.YtbochejgjmjieaaDoor
open Go.RowKit

set_option maxRecDepth 100000 in
set_option maxHeartbeats 8000000 in
theorem refSum_any (size : Int) (Ak Ad : Option Addr) (nk ck nd cd : Nat) (key data : List UInt8) (hnd : nd ≤ 400000) (w : World) (hrk : Rd w w.heap.size Ak nk key) (hrd : Rd w w.heap.size Ad nd data) :
    Calls Tryd.prog 21 #[.int .i64 size, .slice Ak nk ck, .slice Ad nd cd] w fun e w' => ∃ A c', e = .returned (.tuple #[.slice A (sumB size key data).1.length c', .int .i64 ((sumB size key data).2 : Int)]) ∧ Rd w' w'.heap.size A (sumB size key data).1.length (sumB size key data).1 ∧ (sumB size key data).1.length ≤ c' ∧ c' ≤ maxLen ∧ Below w.heap.size w w' := by
  obtain ⟨i0, hi, hz0, hz1, hz2⟩ := info_parts Tryd.info5
  have hkl : key.length = nk := hrk.1
  by_cases h1 : size < 1
  · have hsb : sumB size key data = ([], 1) := by rw [sumB, if_pos (.inl h1)]
    have s1 : decide (size < 1) = true := by simpa using h1
    rw [hsb]
    have HB := Lib.hid (Below.refl w.heap.size w)
    clear hsb hrk hrd hz0 hz1 hz2
    go_enter Tryd.func21, Tryd.ntmps21
    go_wp2_with fail
    first | exact bodyPost_ret (results_tmp2 rfl _ _ _) rfl ⟨_, 0, rfl, Rd.nil _ _ _, Nat.zero_le _, Nat.zero_le _, HB.out⟩ | exact bodyPost_ret (results_tmp2 rfl _ _ _) rfl ⟨_, 0, rfl, Rd.nil _ _ _, Nat.zero_le _, HB.out⟩
  · by_cases h2 : 32 < size
    · have hsb : sumB size key data = ([], 1) := by rw [sumB, if_pos (.inr (.inl h2))]
      have s1 : decide (size < 1) = false := by simpa using h1
      have s2 : decide (size > 32) = true := by simpa using h2
      rw [hsb]
      have HB := Lib.hid (Below.refl w.heap.size w)
      clear hsb hrk hrd hz0 hz1 hz2
      go_enter Tryd.func21, Tryd.ntmps21
      go_wp2_with fail
      first | exact bodyPost_ret (results_tmp2 rfl _ _ _) rfl ⟨_, 0, rfl, Rd.nil _ _ _, Nat.zero_le _, Nat.zero_le _, HB.out⟩ | exact bodyPost_ret (results_tmp2 rfl _ _ _) rfl ⟨_, 0, rfl, Rd.nil _ _ _, Nat.zero_le _, HB.out⟩
    · by_cases h3 : 32 < nk
      · have hsb : sumB size key data = ([], 1) := by rw [sumB, if_pos (.inr (.inr (by omega)))]
        have s1 : decide (size < 1) = false := by simpa using h1
        have s2 : decide (size > 32) = false := by simpa using h2
        have s3 : decide ((nk : Int) > 32) = true := by simp; omega
        rw [hsb]
        have HB := Lib.hid (Below.refl w.heap.size w)
        clear hsb hrk hrd hz0 hz1 hz2
        go_enter Tryd.func21, Tryd.ntmps21
        go_wp2_with fail
        first | exact bodyPost_ret (results_tmp2 rfl _ _ _) rfl ⟨_, 0, rfl, Rd.nil _ _ _, Nat.zero_le _, Nat.zero_le _, HB.out⟩ | exact bodyPost_ret (results_tmp2 rfl _ _ _) rfl ⟨_, 0, rfl, Rd.nil _ _ _, Nat.zero_le _, HB.out⟩
      · obtain ⟨n, rfl⟩ : ∃ n : Nat, size = (n : Int) := ⟨size.toNat, by omega⟩
        have hsb : sumB (n : Int) key data = (hashB n key data, 0) := by rw [sumB, if_neg (by omega)]; rfl
        rw [hsb]
        refine (refSum_ok n (by omega) (by omega) Ak Ad nk ck nd cd key data (by omega) hnd w hrk hrd).mono ?_
        rintro e w' ⟨A, c', rfl, h⟩
        have hl := hashB_length n key data (by omega)
        rw [← hl] at h
        refine ⟨A, c', ?_, ?_⟩
        · dsimp only
          rw [hl]
          rfl
        · dsimp only
          rw [hl] at h ⊢
          exact h
set_option maxRecDepth 100000 in
set_option maxHeartbeats 4000000 in
theorem refHash_any (c : Nat) (A : Option Addr) (ps : List Part) (hm : ps.length ≤ 1000) (ht : (flat ps ps.length).length ≤ 400000) (w : World) (hp : PartsRd w w.heap.size A ps) :
    Calls Tryd.prog 17 #[.slice A ps.length c] w fun e w' => e = .returned (.agg ((hashB 32 [] (flat ps ps.length)).map u8v).toArray) ∧ Below w.heap.size w w' := by
  have HM := Lib.hid (show Mem w [blkE w.heap.size 30 (aeZ 32)] (w.alloc (.cells #[.int .u8 0, .int .u8 0, .int .u8 0, .int .u8 0, .int .u8 0, .int .u8 0, .int .u8 0, .int .u8 0, .int .u8 0, .int .u8 0, .int .u8 0, .int .u8 0, .int .u8 0, .int .u8 0, .int .u8 0, .int .u8 0, .int .u8 0, .int .u8 0, .int .u8 0, .int .u8 0, .int .u8 0, .int .u8 0, .int .u8 0, .int .u8 0, .int .u8 0, .int .u8 0, .int .u8 0, .int .u8 0, .int .u8 0, .int .u8 0, .int .u8 0, .int .u8 0] 30)) from (Mem.nil w).alloc rfl 30 #[.int .u8 0, .int .u8 0, .int .u8 0, .int .u8 0, .int .u8 0, .int .u8 0, .int .u8 0, .int .u8 0, .int .u8 0, .int .u8 0, .int .u8 0, .int .u8 0, .int .u8 0, .int .u8 0, .int .u8 0, .int .u8 0, .int .u8 0, .int .u8 0, .int .u8 0, .int .u8 0, .int .u8 0, .int .u8 0, .int .u8 0, .int .u8 0, .int .u8 0, .int .u8 0, .int .u8 0, .int .u8 0, .int .u8 0, .int .u8 0, .int .u8 0, .int .u8 0] (aeZ 32) rfl)
  have hp1 : PartsRd (w.alloc (.cells #[.int .u8 0, .int .u8 0, .int .u8 0, .int .u8 0, .int .u8 0, .int .u8 0, .int .u8 0, .int .u8 0, .int .u8 0, .int .u8 0, .int .u8 0, .int .u8 0, .int .u8 0, .int .u8 0, .int .u8 0, .int .u8 0, .int .u8 0, .int .u8 0, .int .u8 0, .int .u8 0, .int .u8 0, .int .u8 0, .int .u8 0, .int .u8 0, .int .u8 0, .int .u8 0, .int .u8 0, .int .u8 0, .int .u8 0, .int .u8 0, .int .u8 0, .int .u8 0] 30)) w.heap.size A ps := fun h0 => by
    obtain ⟨g, e, hg, hc⟩ := hp h0
    exact ⟨g, e, hg, fun j hj => ⟨(World.cell?_alloc_lt w _ _ hg).trans (hc j hj).1, (hc j hj).2.alloc (Nat.le_refl _) _⟩⟩
  have JC := Lib.hid (refJoin_any w.heap.size c A ps (by omega) (by omega) _ (by simp) hp1)
  obtain ⟨dl, hdl⟩ : ∃ l, flat ps ps.length = l := ⟨_, rfl⟩
  rw [hdl] at JC ht ⊢
  clear hdl hp hp1
  obtain ⟨nd, hnd⟩ : ∃ n, dl.length = n := ⟨_, rfl⟩
  rw [hnd] at JC ht
  obtain ⟨np, hnp⟩ : ∃ n, ps.length = n := ⟨_, rfl⟩
  rw [hnp] at JC ⊢
  clear hnp hm hnd
  have HHL := Lib.hid (hashB_length 32 [] dl (by omega))
  obtain ⟨hl, hhl⟩ : ∃ l, hashB 32 [] dl = l := ⟨_, rfl⟩
  rw [hhl] at HHL
  have SE := Lib.hid (show sumB 32 [] dl = (hl, 0) by rw [sumB, if_neg (by simp)]; rw [← hhl]; rfl)
  have HHE := Lib.hid hhl
  clear hhl
  go_enter Tryd.func17, Tryd.ntmps17
  go_upto_region 1 with fail
  generalize w.alloc (.cells #[.int .u8 0, .int .u8 0, .int .u8 0, .int .u8 0, .int .u8 0, .int .u8 0, .int .u8 0, .int .u8 0, .int .u8 0, .int .u8 0, .int .u8 0, .int .u8 0, .int .u8 0, .int .u8 0, .int .u8 0, .int .u8 0, .int .u8 0, .int .u8 0, .int .u8 0, .int .u8 0, .int .u8 0, .int .u8 0, .int .u8 0, .int .u8 0, .int .u8 0, .int .u8 0, .int .u8 0, .int .u8 0, .int .u8 0, .int .u8 0, .int .u8 0, .int .u8 0] 30) = w1 at HM JC ⊢
  go_wp2_with fail
  refine JC.out.mono ?_
  rintro e w2 ⟨A2, c2, rfl, ho, hb⟩
  replace HM := Lib.hid (HM.out.callRd hb ho)
  clear ho hb JC
  go_wp2_with fail
  refine (refSum_any 32 none A2 0 0 nd c2 [] dl ht _ (Rd.nil _ _ _) (HM.out.rd 0 rfl)).mono ?_
  rintro e w3 ⟨A3, c3, rfl, hr, _, _, hb⟩
  rw [SE.out] at hr ⊢
  dsimp only at hr ⊢
  rw [HHL.out] at hr ⊢
  replace HM := Lib.hid (HM.out.below hb)
  have hrd := hr
  obtain ⟨g3, off3, rfl, hg3, _⟩ := hrd.2 (by omega)
  have HA := Lib.hid (show Mem w [blkE w3.heap.size 30 ((List.replicate 32 (0 : UInt8)).map u8v), rdE w1.heap.size w2.heap.size A2 nd dl, blkE w.heap.size 30 (aeZ 32)] (w3.alloc (.cells #[.int .u8 0, .int .u8 0, .int .u8 0, .int .u8 0, .int .u8 0, .int .u8 0, .int .u8 0, .int .u8 0, .int .u8 0, .int .u8 0, .int .u8 0, .int .u8 0, .int .u8 0, .int .u8 0, .int .u8 0, .int .u8 0, .int .u8 0, .int .u8 0, .int .u8 0, .int .u8 0, .int .u8 0, .int .u8 0, .int .u8 0, .int .u8 0, .int .u8 0, .int .u8 0, .int .u8 0, .int .u8 0, .int .u8 0, .int .u8 0, .int .u8 0, .int .u8 0] 30)) from HM.out.alloc rfl 30 #[.int .u8 0, .int .u8 0, .int .u8 0, .int .u8 0, .int .u8 0, .int .u8 0, .int .u8 0, .int .u8 0, .int .u8 0, .int .u8 0, .int .u8 0, .int .u8 0, .int .u8 0, .int .u8 0, .int .u8 0, .int .u8 0, .int .u8 0, .int .u8 0, .int .u8 0, .int .u8 0, .int .u8 0, .int .u8 0, .int .u8 0, .int .u8 0, .int .u8 0, .int .u8 0, .int .u8 0, .int .u8 0, .int .u8 0, .int .u8 0, .int .u8 0, .int .u8 0] _ rfl)
  have HR := Lib.hid (hr.alloc (Nat.le_refl _) (.cells #[.int .u8 0, .int .u8 0, .int .u8 0, .int .u8 0, .int .u8 0, .int .u8 0, .int .u8 0, .int .u8 0, .int .u8 0, .int .u8 0, .int .u8 0, .int .u8 0, .int .u8 0, .int .u8 0, .int .u8 0, .int .u8 0, .int .u8 0, .int .u8 0, .int .u8 0, .int .u8 0, .int .u8 0, .int .u8 0, .int .u8 0, .int .u8 0, .int .u8 0, .int .u8 0, .int .u8 0, .int .u8 0, .int .u8 0, .int .u8 0, .int .u8 0, .int .u8 0] 30))
  clear hr hrd hb HM
  go_upto_region 3 with fail
  generalize w3.alloc (.cells #[.int .u8 0, .int .u8 0, .int .u8 0, .int .u8 0, .int .u8 0, .int .u8 0, .int .u8 0, .int .u8 0, .int .u8 0, .int .u8 0, .int .u8 0, .int .u8 0, .int .u8 0, .int .u8 0, .int .u8 0, .int .u8 0, .int .u8 0, .int .u8 0, .int .u8 0, .int .u8 0, .int .u8 0, .int .u8 0, .int .u8 0, .int .u8 0, .int .u8 0, .int .u8 0, .int .u8 0, .int .u8 0, .int .u8 0, .int .u8 0, .int .u8 0, .int .u8 0] 30) = w4 at HA HR ⊢
  generalize w3.heap.size = P at HA HR hg3 ⊢
  go_wp2_with (refine wpList_copy_bytes _ rfl (.tmp 12) (.tmp 13) 22 22 rfl 5 Tryd.underlying22 (by kernel_rfl) P 0 32 32 ⟨g3, off3, none⟩ 32 c3 rfl rfl ((List.replicate 32 (0 : UInt8)).map u8v) 30 (HA.out.blk 0 rfl) (hl.map u8v) (by rw [List.length_map, HHL.out]; rfl) HR.out.src (by rw [List.length_map, List.length_map, HHL.out]; decide) (u8v_one _) ?_; intro w5 hb5 hg5; rw [putL_map, show putL (List.replicate 32 0) 0 hl = hl from by rw [putL, List.take_zero, List.nil_append, HHL.out, show (List.replicate 32 (0 : UInt8)).drop (0 + 32) = [] from rfl, List.append_nil]] at hb5; have HM5 := Lib.hid (show Mem w [blkE P 30 (hl.map u8v), rdE w1.heap.size w2.heap.size A2 nd dl, blkE w.heap.size 30 (aeZ 32)] w5 from HA.out.put 0 rfl _ hg5 hb5); clear hb5 hg5 HA HR; obtain ⟨co, hco⟩ : ∃ c, (hl.map u8v).toArray = c := ⟨_, rfl⟩; have HCO := Lib.hid hco; clear hco; go_wp2_with (first | (refine wpList_load_blk rfl 30 (.tmp 5) rfl P rfl 30 (hl.map u8v) (HM5.out.blk 0 rfl) 32 5 Tryd.underlying30 (cells32 hl HHL.out) ?_; rw [HCO.out]) | (refine wpList_store_blk rfl 30 (.tmp 2) (.tmp 15) rfl w.heap.size (hl.map u8v) rfl (by show Value.agg co = _; rw [HCO.out]) 30 (aeZ 32) (HM5.out.blk 2 rfl) (cells32 hl HHL.out) (by rw [List.length_map, HHL.out]; rfl) (u8v_one _) ?_; intro w9 hb9 hg9)))
  exact bodyPost_ret (results_blk rfl _ _ w.heap.size 30 (hl.map u8v) 32 5 rfl hb9 Tryd.underlying30 (cells32 hl HHL.out)) rfl ⟨by rw [HHE.out], (HM5.out.put 2 rfl _ hg9 hb9).bel⟩
end Go.Proofs.YtbochejgjmjieaaDoor
