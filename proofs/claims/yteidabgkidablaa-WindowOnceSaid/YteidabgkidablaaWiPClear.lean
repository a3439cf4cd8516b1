/-
  The contract of the program's cleared. No statement is proved here.
-/
import Derived.Test.YteidabgkidablaaWiRd
import Derived.Test.YteidabgkidablaaMinK
import Derived.Test.YteidabgkidablaaAtOp
import Derived.RegionTactic
import Derived.Deep.DeepCutAuto
namespace Go.Proofs.Yteidabgkidablaa
open Go.RowKit

theorem words_one (ws : List Nat) : ∀ v ∈ ws.map u64n, v.oneCell' = true := by
  intro v hv
  obtain ⟨x, _, rfl⟩ := List.mem_map.mp hv
  rfl
theorem words_cellsOf (ws : List Nat) (h : ws.length = 4) : (Try.prog.info? 23).map (·.size) = some (ws.map u64n).length := by
  rw [List.length_map, h]; kernel_rfl
theorem words_at {w : World} {g : Nat} {t : TypeId} {ws : List Nat} (h : Blk w g t (ws.map u64n)) (hx : ws.length = 4) (j : Nat) (hj : j < 4) : w.cell? ⟨g, j, none⟩ = some (.int .u64 (ws.getD j 0 : Int)) := by
  have := h.all j (u64n (ws.getD j 0)) (by rw [List.getElem?_map, List.getElem?_eq_getElem (by omega), List.getD_eq_getElem?_getD, List.getElem?_eq_getElem (by omega)]; rfl)
  rwa [Nat.zero_add] at this
def wz4 : List Value := [.int .u64 0, .int .u64 0, .int .u64 0, .int .u64 0]
set_option maxRecDepth 100000 in
set_option maxHeartbeats 8000000 in
theorem cleared_any (ws : List Nat) (fr tz : Nat) (hws : ws.length = 4) (hft : fr ≤ tz) (ht : tz < 288230376151711744) (w : World) :
    Calls Try.prog 12 #[.agg (ws.map u64n).toArray, .int .u64 (fr : Int), .int .u64 (tz : Int)] w fun e w' => e = .returned (.agg ((clearM ws fr (min (tz - fr) 4)).map u64n).toArray) ∧ Below w.heap.size w w' := by
  obtain ⟨d, hd⟩ : ∃ z, tz - fr = z := ⟨_, rfl⟩
  obtain ⟨n, hn⟩ : ∃ z, min d 4 = z := ⟨_, rfl⟩
  rw [hd, hn]
  obtain ⟨xc, hxc⟩ : ∃ z, (ws.map u64n).toArray = z := ⟨_, rfl⟩
  rw [hxc]
  have HXC := Lib.hid hxc
  have HWS := Lib.hid hws
  have hm := ((Mem.nil w).alloc rfl 23 xc (ws.map u64n) hxc.symm).alloc rfl 23 #[.int .u64 0, .int .u64 0, .int .u64 0, .int .u64 0] wz4 rfl
  have HM := Lib.hid (show Mem w [blkE (w.heap.size + 1) 23 wz4, blkE w.heap.size 23 (ws.map u64n)] ((w.alloc (.cells xc 23)).alloc (.cells #[.int .u64 0, .int .u64 0, .int .u64 0, .int .u64 0] 23)) from by simpa using hm)
  have e1 : (tz : Int) - (fr : Int) = (d : Int) := by omega
  have w1' : IntKind.u64.wrap (d : Int) = (d : Int) := by rw [IntKind.wrap_u64]; omega
  have emin : min (d : Int) 4 = (n : Int) := by omega
  have HN := Lib.hid (show n ≤ 4 ∧ fr < 288230376151711744 from by omega)
  clear hm hxc hws hd hn
  go_enter Try.func12, Try.ntmps12
  go_upto_region 1 with fail
  generalize (w.alloc (.cells xc 23)).alloc (.cells #[.int .u64 0, .int .u64 0, .int .u64 0, .int .u64 0] 23) = w1 at HM ⊢
  generalize w.heap.size + 1 = P6 at HM ⊢
  generalize w.heap.size = P3 at HM ⊢
  go_wp2_with (refine wpList_min_k rfl (.tmp 10) (.const (.int .u64 4)) #[22, 22] rfl .u64 (d : Int) 4 (n : Int) rfl rfl emin ?_)
  clear e1 w1' emin hft ht
  go_loopw [12] (fun v wr => ∃ i : Nat, i ≤ n ∧ v = .int .u64 (i : Int) ∧ Mem w [blkE P6 23 wz4, blkE P3 23 ((clearM ws fr i).map u64n)] wr) (fun v _ => n - (intOf v).toNat)
  case atStart => exact ⟨0, Nat.zero_le _, rfl, HM.out⟩
  case round =>
    clear HM
    obtain ⟨i, hi, rfl, hM⟩ := hrel
    have HM := Lib.hid hM
    clear hM
    have hnn := HN.out
    have HQO := Lib.hid (show (clearM ws fr i).length = 4 from (clearM_length _ _ _).trans HWS.out)
    by_cases hin : i < n
    · have d3 : decide ((i : Int) < (n : Int)) = true := by simp; omega
      have d4 : decide (i < n) = true := by simpa using hin
      obtain ⟨f1, hf1⟩ : ∃ z, fr + 1 = z := ⟨_, rfl⟩
      obtain ⟨ti, hti⟩ : ∃ z, f1 + i = z := ⟨_, rfl⟩
      obtain ⟨j, hj⟩ : ∃ z, ti % 4 = z := ⟨_, rfl⟩
      obtain ⟨i2, hi2⟩ : ∃ z, i + 1 = z := ⟨_, rfl⟩
      have fw := words_at (HM.out.blk 1 rfl) HQO.out j (by omega)
      have zx := (HM.out.blk 1 rfl).frozen j
      have hj4 : (j : Int) < 4 := by omega
      have e5 : (fr : Int) + 1 = (f1 : Int) := by omega
      have e6 : (f1 : Int) + (i : Int) = (ti : Int) := by omega
      have e7 : (ti : Int) % 4 = (j : Int) := by omega
      have w5' : IntKind.u64.wrap (f1 : Int) = (f1 : Int) := by rw [IntKind.wrap_u64]; omega
      have w6' : IntKind.u64.wrap (ti : Int) = (ti : Int) := by rw [IntKind.wrap_u64]; omega
      have e8 : (i : Int) + 1 = (i2 : Int) := by omega
      have w8' : IntKind.u64.wrap (i2 : Int) = (i2 : Int) := by rw [IntKind.wrap_u64]; omega
      have hcl : clearM ws fr (i + 1) = (clearM ws fr i).set j 0 := by rw [clearM, show fr + (i + 1) = ti by omega, hj]
      have hm9 := HM.out.setCell 1 rfl j (.int .u64 0)
      rw [show (.int .u64 0 : Value) = u64n 0 from rfl, ← List.map_set, ← hcl] at hm9
      have HM9 := Lib.hid (show Mem w [blkE P6 23 wz4, blkE P3 23 ((clearM ws fr (i + 1)).map u64n)] (wr.setCell ⟨P3, j, none⟩ (.int .u64 0)) from hm9)
      have HI2 := Lib.hid (show i2 = i + 1 ∧ i + 1 ≤ n from by omega)
      have HMS := Lib.hid (show n - i2 < n - i from by omega)
      clear hcl hm9 hf1 hti hj hi hin hi2
      go_wp2
      go_roundw
      case rel => exact ⟨i2, by have := HI2.out; omega, rfl, by rw [HI2.out.1]; exact HM9.out⟩
      case measure =>
        have := HMS.out
        simp [intOf]
        omega
    · have d3 : decide ((i : Int) < (n : Int)) = false := by simp; omega
      obtain rfl : i = n := by omega
      have d4 : decide (i < i) = false := by simp
      clear hi hin
      obtain ⟨yc, hyc⟩ : ∃ z, ((clearM ws fr i).map u64n).toArray = z := ⟨_, rfl⟩
      have HYC := Lib.hid hyc
      go_upto_region 6 with fail
      go_wp2_with (first | ((with_reducible refine at_op (.load 23 (.tmp 3)) rfl ?_); refine wpList_load_obj rfl 23 (.tmp 3) rfl P3 0 rfl ((clearM ws fr i).map u64n) (HM.out.blk 1 rfl).all _ Try.underlying23 rfl (words_cellsOf _ HQO.out) ?_; rw [HYC.out]) | ((with_reducible refine at_op (.store 23 (.tmp 6) (.tmp 22)) rfl ?_); refine wpList_store_obj rfl 23 (.tmp 6) (.tmp 22) rfl P6 0 ((clearM ws fr i).map u64n) rfl (by show Value.agg yc = _; rw [HYC.out]) 23 wz4 (HM.out.blk 0 rfl) (words_cellsOf _ HQO.out) (by rw [List.length_map, HQO.out]; decide) (words_one _) ?_; intro w9 hb9 hg9))
      rw [setL_all wz4 _ (by rw [List.length_map, HQO.out]; rfl)] at hb9
      exact bodyPost_ret (results_obj rfl _ _ P6 23 ((clearM ws fr i).map u64n) _ rfl hb9 Try.underlying23 rfl (words_cellsOf _ HQO.out)) rfl ⟨rfl, (HM.out.put 0 rfl _ hg9 hb9).bel⟩
end Go.Proofs.Yteidabgkidablaa
