/-
  The contracts of the choices that the statements are made of: Masked, Addr, Prefix. No statement is proved here.
-/
import Derived.Test.YtdpdalkeafkhkaaCodes2
import Derived.Test.YtdpdalkeafkhkaaInRef3
namespace Go.Proofs.Ytdpdalkeafkhkaa
open Go.RowKit

/-- a byte without one bit, counted from the highest -/
def clearBit (x : UInt8) (m : Nat) : UInt8 := x &&& ~~~(UInt8.ofNat (128 / 2 ^ m))
theorem clear_all : ∀ m : Fin 8, ∀ n : Fin 256, bits BinOp.andNot IntKind.u8 (n.val : Int) ((128 / 2 ^ m.val : Nat) : Int) = ((clearBit (UInt8.ofNat n.val) m.val).toNat : Int) := by decide +kernel
theorem clear_bits (x : UInt8) (m : Nat) (h : m < 8) : bits BinOp.andNot IntKind.u8 (x.toNat : Int) (128 / 2 ^ m) = ((clearBit x m).toNat : Int) := by
  have h1 := clear_all ⟨m, h⟩ ⟨x.toNat, x.toNat_lt⟩
  simp only [UInt8.ofNat_toNat] at h1
  rw [← h1, Int.natCast_ediv, Int.natCast_pow]
  rfl
/-- the j bits behind b cleared -/
def clearS (ip : List UInt8) (b : Nat) : Nat → List UInt8
  | 0 => ip
  | j + 1 => (clearS ip b j).set ((b + j) / 8) (clearBit ((clearS ip b j).getD ((b + j) / 8) 0) ((b + j) % 8))
theorem clearS_length (ip : List UInt8) (b : Nat) : ∀ j, (clearS ip b j).length = ip.length
  | 0 => rfl
  | j + 1 => by rw [clearS, List.length_set, clearS_length]
def maskM (a : AddrM) (b : Nat) : AddrM := ⟨a.six, clearS a.ip b (128 - b)⟩
theorem maskM_ok (a : AddrM) (h : a.ok) (b : Nat) : (maskM a b).ok := (clearS_length _ _ _).trans h
theorem AddrM.set_cell (a : AddrM) (q : Nat) (y : UInt8) : a.cells.set (1 + q) (u8v y) = (AddrM.mk a.six (a.ip.set q y)).cells := by
  rw [AddrM.cells, AddrM.cells, Nat.add_comm, List.set_cons_succ, ← List.map_set]
def pref0 : List Value := prefC addr0 0
theorem prefC_one (a : AddrM) (bits : Int) : ∀ v ∈ prefC a bits, v.oneCell' = true := by
  intro v hv
  rw [prefC, List.mem_append, List.mem_singleton] at hv
  rcases hv with hv | rfl
  · exact a.one v hv
  · rfl
theorem pref_built (a : AddrM) (ha : a.ok) (q : Int) : Try.prog.built 42 [(0, .agg a.cells.toArray), (1, .int .i64 q)] = some (prefC a q).toArray := by
  rw [built_of 42 [17, 1] [addr0.cells, [.int .i64 0]] rfl #[(0, 17), (17, 1)] (fun parts => by kernel_rfl) (fun i h => by
    match i, h with
    | 0, _ => rfl
    | 1, _ => rfl) _ (fun p hp => by
    simp only [List.mem_cons, List.not_mem_nil, or_false] at hp
    rcases hp with rfl | rfl
    · simp [Value.cells, AddrM.cells_length ha]
    · rfl)]
  simp [prefC, Value.cells]
set_option maxRecDepth 100000 in
set_option maxHeartbeats 4000000 in
theorem caseMasked_any (a : AddrM) (h : a.ok) (b : Nat) (hb : b ≤ 128) (w : World) :
    Calls Try.prog 25 #[.agg a.cells.toArray, .int .i64 (b : Int)] w fun e w' => e = .returned (.agg (prefC (maskM a b) (b : Int)).toArray) ∧ Below w.heap.size w w' := by
  obtain ⟨ca, hca⟩ : ∃ x, a.cells.toArray = x := ⟨_, rfl⟩
  rw [hca]
  have HM := Lib.hid (show Mem w [blkE (w.heap.size + 1) 42 pref0, blkE w.heap.size 29 a.cells] ((w.alloc (.cells ca 29)).alloc (.cells #[.bool false, .int .u8 0, .int .u8 0, .int .u8 0, .int .u8 0, .int .u8 0, .int .u8 0, .int .u8 0, .int .u8 0, .int .u8 0, .int .u8 0, .int .u8 0, .int .u8 0, .int .u8 0, .int .u8 0, .int .u8 0, .int .u8 0, .int .i64 0] 42)) from ((Mem.nil w).alloc rfl 29 ca a.cells hca.symm).alloc (by simp) 42 #[.bool false, .int .u8 0, .int .u8 0, .int .u8 0, .int .u8 0, .int .u8 0, .int .u8 0, .int .u8 0, .int .u8 0, .int .u8 0, .int .u8 0, .int .u8 0, .int .u8 0, .int .u8 0, .int .u8 0, .int .u8 0, .int .u8 0, .int .i64 0] pref0 rfl)
  have HO := Lib.hid h
  clear hca h
  go_enter Try.func25, Try.ntmps25
  go_upto_region 1 with fail
  generalize ((w.alloc (.cells ca 29)).alloc (.cells #[.bool false, .int .u8 0, .int .u8 0, .int .u8 0, .int .u8 0, .int .u8 0, .int .u8 0, .int .u8 0, .int .u8 0, .int .u8 0, .int .u8 0, .int .u8 0, .int .u8 0, .int .u8 0, .int .u8 0, .int .u8 0, .int .u8 0, .int .i64 0] 42)) = w1 at HM ⊢
  go_wp2_with fail
  go_loopw [5] (fun z wr => ∃ k : Nat, b ≤ k ∧ k ≤ 128 ∧ z = .int .i64 (k : Int) ∧ Mem w [blkE (w.heap.size + 1) 42 pref0, blkE w.heap.size 29 (AddrM.mk a.six (clearS a.ip b (k - b))).cells] wr) (fun z _ => 128 - (intOf z).toNat)
  case atStart => exact ⟨b, by omega, by omega, rfl, by rw [Nat.sub_self]; exact HM.out⟩
  case round =>
    clear HM
    obtain ⟨k, hbk, hk, rfl, hM⟩ := hrel
    have HM := Lib.hid hM
    clear hM
    have hok : (AddrM.mk a.six (clearS a.ip b (k - b))).ok := (clearS_length _ _ _).trans HO.out
    by_cases hlt : k < 128
    · have dl : decide ((k : Int) < 128) = true := by simp; omega
      obtain ⟨j, hj⟩ : ∃ j, k - b = j := ⟨_, rfl⟩
      obtain ⟨q, hq⟩ : ∃ q, k / 8 = q := ⟨_, rfl⟩
      obtain ⟨m, hm⟩ : ∃ q, k % 8 = q := ⟨_, rfl⟩
      have hq16 : q < 16 := by omega
      have hm8 : m < 8 := by omega
      have hn : clearS a.ip b (k + 1 - b) = (clearS a.ip b (k - b)).set q (clearBit ((clearS a.ip b (k - b)).getD q 0) m) := by
        rw [show k + 1 - b = (k - b) + 1 by omega, clearS, show b + (k - b) = k by omega, hq, hm]
      have fx := ((HM.out.blk 1 rfl).cell (1 + q)).trans (AddrM.ip_cell _ hok q hq16)
      have zx := (HM.out.blk 1 rfl).frozen (1 + q)
      have hset := AddrM.set_cell (AddrM.mk a.six (clearS a.ip b (k - b))) q
      generalize (clearS a.ip b (k - b)) = ip at HM hn fx hset hok
      generalize hx : ip.getD q 0 = x at fx hn
      have hcb := clear_bits x m hm8
      generalize clearBit x m = y at hcb hn
      have hqI : (k : Int) / 8 = (q : Int) := by omega
      have hmI : (k : Int) % 8 = (m : Int) := by omega
      have hmin : min m 8 = m := by omega
      have bq : (q : Int) < 16 := by omega
      have HN := Lib.hid (show Mem w [blkE (w.heap.size + 1) 42 pref0, blkE w.heap.size 29 (AddrM.mk a.six (clearS a.ip b (k + 1 - b))).cells] (wr.drew.setCell ⟨w.heap.size, 1 + q, none⟩ (.int .u8 (y.toNat : Int))) from by have h := HM.out.drew.setCell 1 rfl (1 + q) (u8v y); rw [hset, ← hn] at h; exact h)
      clear hset hn hx hok HM
      go_upto_region 4 with fail
      go_region
      go_wp2_with fail
      go_roundw
      case rel => exact ⟨k + 1, by omega, by omega, by go_num, HN.out⟩
      case measure => simp [intOf]; omega
    · obtain rfl : k = 128 := by omega
      have HMO := Lib.hid (maskM_ok a HO.out b)
      have hb2 := pref_built (maskM a b) HMO.out (b : Int)
      obtain ⟨cm, hcm⟩ : ∃ x, (maskM a b).cells.toArray = x := ⟨_, rfl⟩
      obtain ⟨cp, hcp⟩ : ∃ x, (prefC (maskM a b) (b : Int)).toArray = x := ⟨_, rfl⟩
      rw [hcm, hcp] at hb2
      have HB := Lib.hid (And.intro hb2 (And.intro hcm hcp))
      have HM2 := Lib.hid (show Mem w [blkE (w.heap.size + 1) 42 pref0, blkE w.heap.size 29 (maskM a b).cells] wr from HM.out)
      have HLP := Lib.hid (prefC_length (maskM a b) HMO.out (b : Int))
      clear hb2 hcm hcp HM hok
      (try rw [show ((128 : Nat) : Int) = 128 from rfl])
      go_wp2_with (first | (refine wpList_load_obj rfl 29 (.tmp 2) rfl w.heap.size 0 rfl (maskM a b).cells (HM2.out.blk 1 rfl).all _ Try.underlying29 rfl (addr_cellsOf _ HMO.out) ?_; rw [HB.out.2.1]) | (refine wpList_build_as rfl 42 [(0, .tmp 22), (1, .tmp 23)] rfl cp ?_ ?_; exact HB.out.1) | (refine wpList_store_blk rfl 42 (.tmp 4) (.tmp 24) rfl (w.heap.size + 1) (prefC (maskM a b) (b : Int)) rfl (by show Value.agg cp = _; rw [HB.out.2.2]) 42 pref0 (HM2.out.blk 0 rfl) (pref_cellsOf _ HMO.out _) (by rw [HLP.out]; rfl) (prefC_one _ _) ?_; intro w9 hb9 hg9))
      exact bodyPost_ret (results_obj rfl _ _ (w.heap.size + 1) 42 (prefC (maskM a b) (b : Int)) _ rfl hb9 Try.underlying42 rfl (pref_cellsOf _ HMO.out _)) rfl ⟨rfl, (HM2.out.put 0 rfl _ hg9 hb9).bel⟩
end Go.Proofs.Ytdpdalkeafkhkaa
