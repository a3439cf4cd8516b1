/-
  The contract of an address that the statements are made of: Host. No statement is proved here.
-/
import Derived.Test.YtdpdalkeafkhkaaCodes4
namespace Go.Proofs.Ytdpdalkeafkhkaa
open Go.RowKit

def hostB (u v : UInt8) : List UInt8 := [10, u, 0, v, 0, 0, 0, 0, 0, 0, 0, 0, 0, 0, 0, 0]
/-- the address 10.x.0.y -/
def hostM (x y : Nat) : AddrM := ⟨false, hostB (UInt8.ofNat x) (UInt8.ofNat y)⟩
theorem hostM_ok (x y : Nat) : (hostM x y).ok := rfl
theorem ip_built (u v : UInt8) : Try.prog.built 27 [(0, .int .u8 10), (1, .int .u8 (u.toNat : Int)), (2, .int .u8 0), (3, .int .u8 (v.toNat : Int))] = some ((hostB u v).map u8v).toArray := by kernel_rfl
theorem addr_built (l : List UInt8) (h : l.length = 16) : Try.prog.built 29 [(1, .agg (l.map u8v).toArray)] = some (AddrM.mk false l).cells.toArray := by
  rw [built_of 29 [1, 16] [[.bool false], (List.replicate 16 (0 : UInt8)).map u8v] rfl #[(0, 1), (1, 16)] (fun parts => by kernel_rfl) (fun i h => by
    match i, h with
    | 0, _ => rfl
    | 1, _ => rfl) _ (fun p hp => by
    simp only [List.mem_cons, List.not_mem_nil, or_false] at hp
    subst hp
    simp [Value.cells, h])]
  simp [AddrM.cells, Value.cells]
set_option maxRecDepth 100000 in
set_option maxHeartbeats 2000000 in
theorem caseHost_any (x y : Nat) (w : World) :
    Calls Try.prog 27 #[.int .i64 (x : Int), .int .i64 (y : Int)] w fun e w' => e = .returned (.agg (hostM x y).cells.toArray) ∧ Below w.heap.size w w' := by
  rw [hostM]
  have hw1 := codeByte_wrap x
  have hw2 := codeByte_wrap y
  generalize UInt8.ofNat x = u at hw1 ⊢
  generalize UInt8.ofNat y = v at hw2 ⊢
  have hb1 := ip_built u v
  have hb2 := addr_built (hostB u v) rfl
  have hok : (AddrM.mk false (hostB u v)).ok := rfl
  generalize hl : hostB u v = l at hb1 hb2 hok ⊢
  clear hl
  obtain ⟨ci, hci⟩ : ∃ c, (l.map u8v).toArray = c := ⟨_, rfl⟩
  obtain ⟨ca, hca⟩ : ∃ c, (AddrM.mk false l).cells.toArray = c := ⟨_, rfl⟩
  rw [hci] at hb1 hb2
  rw [hca] at hb2 ⊢
  have HB := Lib.hid (And.intro hb1 (And.intro hb2 hca))
  have HO := Lib.hid hok
  have HAL := Lib.hid (AddrM.cells_length HO.out)
  have HCO := Lib.hid (addr_cellsOf _ HO.out)
  clear hb1 hb2 hci hca hok
  have HM := Lib.hid (show Mem w [blkE w.heap.size 29 addr0.cells] (w.alloc (.cells #[.bool false, .int .u8 0, .int .u8 0, .int .u8 0, .int .u8 0, .int .u8 0, .int .u8 0, .int .u8 0, .int .u8 0, .int .u8 0, .int .u8 0, .int .u8 0, .int .u8 0, .int .u8 0, .int .u8 0, .int .u8 0, .int .u8 0] 29)) from (Mem.nil w).alloc rfl 29 #[.bool false, .int .u8 0, .int .u8 0, .int .u8 0, .int .u8 0, .int .u8 0, .int .u8 0, .int .u8 0, .int .u8 0, .int .u8 0, .int .u8 0, .int .u8 0, .int .u8 0, .int .u8 0, .int .u8 0, .int .u8 0, .int .u8 0] addr0.cells rfl)
  go_enter Try.func27, Try.ntmps27
  go_upto_region 1 with fail
  generalize w.alloc (.cells #[.bool false, .int .u8 0, .int .u8 0, .int .u8 0, .int .u8 0, .int .u8 0, .int .u8 0, .int .u8 0, .int .u8 0, .int .u8 0, .int .u8 0, .int .u8 0, .int .u8 0, .int .u8 0, .int .u8 0, .int .u8 0, .int .u8 0] 29) = w1 at HM ⊢
  go_wp2_with (first | (refine wpList_build_as rfl 27 [(0, .const (.int .u8 10)), (1, .tmp 6), (2, .const (.int .u8 0)), (3, .tmp 8)] rfl ci ?_ ?_; exact HB.out.1) | (refine wpList_build_as rfl 29 [(1, .tmp 9)] rfl ca ?_ ?_; exact HB.out.2.1) | (refine wpList_store_blk rfl 29 (.tmp 4) (.tmp 10) rfl w.heap.size (AddrM.mk false l).cells rfl (by show Value.agg ca = _; rw [HB.out.2.2]) 29 addr0.cells (HM.out.blk 0 rfl) HCO.out (by rw [HAL.out]; rfl) (AddrM.one _) ?_; intro w9 hb9 hg9))
  exact bodyPost_ret (results_obj rfl _ _ w.heap.size 29 (AddrM.mk false l).cells _ rfl hb9 Try.underlying29 rfl HCO.out) rfl ⟨by rw [HB.out.2.2], (HM.out.put 0 rfl _ hg9 hb9).bel⟩
end Go.Proofs.Ytdpdalkeafkhkaa
