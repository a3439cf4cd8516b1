/-
  The contract of chacha.Block: the words of the initial state plus those of Core of it, each as four bytes.
-/
import Derived.Test.YtkbefhmgcodpaaaChState
import Derived.Test.YtkbefhmgcodpaaaLittle
import Derived.Test.YtkbefhmgcodpaaaRegion
namespace Go.Proofs.Ytkbefhmgcodpaaa
open Go.RowKit

/-- sixty-four bytes, all 0 -/
def z64 : List Value := List.replicate 64 (.int .u8 0)
/-- the bytes of the first j words, then zeros -/
def bytesW (ws : List UInt32) : List UInt8 := ws.flatMap fun x => littleL x.toNat 4
theorem bytesW_length : ∀ ws : List UInt32, (bytesW ws).length = 4 * ws.length
  | [] => rfl
  | x :: ws => by
    have := bytesW_length ws
    simp only [bytesW, List.flatMap_cons, List.length_append, littleL_length, List.length_cons] at this ⊢
    omega
def rowB (ws : List UInt32) (j : Nat) : List UInt8 := bytesW (ws.take j) ++ List.replicate (64 - 4 * j) 0
theorem rowB_length (ws : List UInt32) (h : ws.length = 16) (j : Nat) (hj : j ≤ 16) : (rowB ws j).length = 64 := by
  simp only [rowB, List.length_append, bytesW_length, List.length_take, List.length_replicate]
  omega
theorem rowB_zero (ws : List UInt32) : (rowB ws 0).map u8v = z64 := by
  simp [rowB, bytesW, z64, u8v]
theorem rowB_end (ws : List UInt32) (h : ws.length = 16) : rowB ws 16 = bytesW ws := by
  simp [rowB, List.take_of_length_le (show ws.length ≤ 16 by omega)]
theorem rowB_step (ws : List UInt32) (h : ws.length = 16) (j : Nat) (hj : j < 16) (cs : List Value) (hcs : cs = (littleL (wd ws j).toNat 4).map u8v) :
    ((rowB ws j).map u8v).take (4 * j) ++ cs ++ ((rowB ws j).map u8v).drop (4 * j + cs.length) = (rowB ws (j + 1)).map u8v := by
  have hl : (bytesW (ws.take j)).length = 4 * j := by rw [bytesW_length, List.length_take]; omega
  have h4 : cs.length = 4 := by rw [hcs, List.length_map, littleL_length]
  have e1 : ((rowB ws j).map u8v).take (4 * j) = (bytesW (ws.take j)).map u8v := by
    rw [← List.map_take, rowB, List.take_append_of_le_length (by omega), List.take_of_length_le (by omega)]
  have e2 : ((rowB ws j).map u8v).drop (4 * j + cs.length) = (List.replicate (64 - 4 * (j + 1)) 0).map u8v := by
    rw [h4, ← List.map_drop, rowB, List.drop_append, List.drop_of_length_le (by omega), hl, List.nil_append, List.drop_replicate]
    congr 2
    omega
  rw [e1, e2, hcs]
  have e3 : ws.take (j + 1) = ws.take j ++ [wd ws j] := by
    rw [List.take_succ_eq_append_getElem (by omega)]
    simp [wd, List.getD, h, hj]
  rw [rowB, e3]
  simp [bytesW]

theorem cells64 (l : List UInt8) (h : l.length = 64) : (Try.prog.info? 63).map (·.size) = some (l.map u8v).length := by
  rw [List.length_map, h]; kernel_rfl
theorem cells12 (l : List UInt8) (h : l.length = 12) : (Try.prog.info? 39).map (·.size) = some (l.map u8v).length := by
  rw [List.length_map, h]; kernel_rfl
theorem word_of (l m : List UInt32) (j : Nat) (hl : l.length = 16) (hm : m.length = 16) (hj : j < 16) : wd (l.zipWith (· + ·) m) j = wd l j + wd m j := by
  simp [wd, List.getD, hl, hm, hj]

set_option maxRecDepth 100000 in
set_option maxHeartbeats 4000000 in
theorem block_any (k n : List UInt8) (hk : k.length = 32) (hn : n.length = 12) (c : UInt32) (w : World) :
    Calls Try.prog 43 #[.agg (k.map u8v).toArray, .int .u32 (c.toNat : Int), .agg (n.map u8v).toArray] w fun e w' => e = .returned (.agg ((blockL k c n).map u8v).toArray) ∧ Below w.heap.size w w' := by
  obtain ⟨i0, hi, hz0, hz1, hz2⟩ := info_parts Try.info5
  have SC := fun w' : World => state_any k n hk hn c w'
  obtain ⟨ck, hck⟩ : ∃ ck, (k.map u8v).toArray = ck := ⟨_, rfl⟩
  obtain ⟨cn, hcn⟩ : ∃ cn, (n.map u8v).toArray = cn := ⟨_, rfl⟩
  rw [hck, hcn] at SC
  obtain ⟨ls, hls⟩ : ∃ ls, stateW k c n = ls := ⟨_, rfl⟩
  have HLS := Lib.hid (show ls.length = 16 by rw [← hls]; exact stateW_length k c n)
  rw [hls] at SC
  obtain ⟨sa, has⟩ : ∃ sa, (ls.map u32v).toArray = sa := ⟨_, rfl⟩
  rw [has] at SC
  have CC := fun w' : World => core_any ls HLS.out w'
  obtain ⟨lm, hlm⟩ : ∃ lm, coreW 10 ls = lm := ⟨_, rfl⟩
  have HLM := Lib.hid (show lm.length = 16 by rw [← hlm, coreW_length]; exact HLS.out)
  rw [has, hlm] at CC
  obtain ⟨sm, ham⟩ : ∃ sm, (lm.map u32v).toArray = sm := ⟨_, rfl⟩
  rw [ham] at CC
  have EB : blockL k c n = bytesW (lm.zipWith (· + ·) ls) := by rw [← hlm, ← hls]; rfl
  obtain ⟨ws, hws⟩ : ∃ ws, lm.zipWith (· + ·) ls = ws := ⟨_, rfl⟩
  have HWS := Lib.hid (show ws.length = 16 by rw [← hws, List.length_zipWith, HLS.out, HLM.out]; rfl)
  have HWD := Lib.hid (fun (j : Nat) (hj : j < 16) => show wd ls j + wd lm j = wd ws j by rw [← hws, word_of lm ls j HLM.out HLS.out hj, UInt32.add_comm])
  rw [hws] at EB
  rw [hck, hcn]
  have HK0 := Lib.hid (show Blk (w.alloc (.cells ck 23)) w.heap.size 23 (k.map u8v) by rw [← hck]; exact Blk.new w _ _)
  have HN0 := Lib.hid (show Blk ((w.alloc (.cells ck 23)).alloc (.cells cn 39)) (w.heap.size + 1) 39 (n.map u8v) by rw [← hcn]; exact Blk.new' _ (by simp) _ _)
  have HCK := Lib.hid hck
  have HCN := Lib.hid hcn
  have HAS := Lib.hid has
  have HAM := Lib.hid ham
  have HEB := Lib.hid EB
  have HSC := Lib.hid SC
  have HCC := Lib.hid CC
  have HK := Lib.hid hk
  have HN := Lib.hid hn
  clear hk hn hck hcn has ham EB SC CC hls hlm hws
  go_enter Try.func43, Try.ntmps43
  go_upto_region 1 with fail
  have hk1 := (HK0.out.alloc (.cells cn 39)).alloc (.cells z64.toArray 63)
  have hn1 := HN0.out.alloc (.cells z64.toArray 63)
  have hz1' : Blk (((w.alloc (.cells ck 23)).alloc (.cells cn 39)).alloc (.cells z64.toArray 63)) (w.heap.size + 2) 63 z64 := Blk.new' _ (by simp) _ _
  have hbel1 : Below w.heap.size w (((w.alloc (.cells ck 23)).alloc (.cells cn 39)).alloc (.cells z64.toArray 63)) := (((Below.refl _ _).alloc (Nat.le_refl _) _).alloc (by simp) _).alloc (by simp; omega) _
  have hs1 : w.heap.size + 3 ≤ (((w.alloc (.cells ck 23)).alloc (.cells cn 39)).alloc (.cells z64.toArray 63)).heap.size := by simp
  clear HK0 HN0
  have e64 : z64.toArray = #[.int .u8 0, .int .u8 0, .int .u8 0, .int .u8 0, .int .u8 0, .int .u8 0, .int .u8 0, .int .u8 0, .int .u8 0, .int .u8 0, .int .u8 0, .int .u8 0, .int .u8 0, .int .u8 0, .int .u8 0, .int .u8 0, .int .u8 0, .int .u8 0, .int .u8 0, .int .u8 0, .int .u8 0, .int .u8 0, .int .u8 0, .int .u8 0, .int .u8 0, .int .u8 0, .int .u8 0, .int .u8 0, .int .u8 0, .int .u8 0, .int .u8 0, .int .u8 0, .int .u8 0, .int .u8 0, .int .u8 0, .int .u8 0, .int .u8 0, .int .u8 0, .int .u8 0, .int .u8 0, .int .u8 0, .int .u8 0, .int .u8 0, .int .u8 0, .int .u8 0, .int .u8 0, .int .u8 0, .int .u8 0, .int .u8 0, .int .u8 0, .int .u8 0, .int .u8 0, .int .u8 0, .int .u8 0, .int .u8 0, .int .u8 0, .int .u8 0, .int .u8 0, .int .u8 0, .int .u8 0, .int .u8 0, .int .u8 0, .int .u8 0, .int .u8 0] := rfl
  rw [e64] at hk1 hn1 hz1' hbel1 hs1
  generalize (((w.alloc (.cells ck 23)).alloc (.cells cn 39)).alloc (.cells #[.int .u8 0, .int .u8 0, .int .u8 0, .int .u8 0, .int .u8 0, .int .u8 0, .int .u8 0, .int .u8 0, .int .u8 0, .int .u8 0, .int .u8 0, .int .u8 0, .int .u8 0, .int .u8 0, .int .u8 0, .int .u8 0, .int .u8 0, .int .u8 0, .int .u8 0, .int .u8 0, .int .u8 0, .int .u8 0, .int .u8 0, .int .u8 0, .int .u8 0, .int .u8 0, .int .u8 0, .int .u8 0, .int .u8 0, .int .u8 0, .int .u8 0, .int .u8 0, .int .u8 0, .int .u8 0, .int .u8 0, .int .u8 0, .int .u8 0, .int .u8 0, .int .u8 0, .int .u8 0, .int .u8 0, .int .u8 0, .int .u8 0, .int .u8 0, .int .u8 0, .int .u8 0, .int .u8 0, .int .u8 0, .int .u8 0, .int .u8 0, .int .u8 0, .int .u8 0, .int .u8 0, .int .u8 0, .int .u8 0, .int .u8 0, .int .u8 0, .int .u8 0, .int .u8 0, .int .u8 0, .int .u8 0, .int .u8 0, .int .u8 0, .int .u8 0] 63)) = W1 at hk1 hn1 hz1' hbel1 hs1 ⊢
  clear e64
  rw [show w.heap.size + 1 + 1 = w.heap.size + 2 from rfl]
  have HS1 := Lib.hid hs1
  clear hs1
  go_wp2_with (first | (refine wpList_load_blk rfl 23 (.tmp 3) rfl w.heap.size rfl 23 (k.map u8v) hk1 32 5 Try.underlying23 (cells32 k HK.out) ?_; rw [HCK.out]) | (refine wpList_load_blk rfl 39 (.tmp 5) rfl (w.heap.size + 1) rfl 39 (n.map u8v) hn1 12 5 Try.underlying39 (cells12 n HN.out) ?_; rw [HCN.out]))
  refine (HSC.out _).mono ?_
  rintro e w2 ⟨rfl, hb2⟩
  have hz2' := hz1'.below hb2 hz1'.lt
  have bel2 := hbel1.trans (hb2.mono hbel1.size)
  have hs2 : w.heap.size + 3 ≤ w2.heap.size := Nat.le_trans HS1.out hb2.size
  have HB2 := Lib.hid (And.intro hz2' (And.intro bel2 hs2))
  clear hz1' hbel1 hb2 hz2' bel2 hs2 hk1 hn1 HS1
  go_upto_region 2 with (refine wpList_store_blk rfl 44 (.tmp 7) (.tmp 15) rfl w2.heap.size (ls.map u32v) rfl (by rw [HAS.out]; rfl) 44 z16 (Blk.new w2 44 z16) (cells16 ls HLS.out) (by rw [List.length_map, HLS.out]; rfl) (u32v_one _) ?_; intro w3 hb3 hg3)
  simp only [Act.put]
  have hz3 := (HB2.out.1.alloc (.cells z16.toArray 44)).grown hg3 (by have := HB2.out.2.2; simp; omega)
  have bel3 := Below.grown (HB2.out.2.1.alloc HB2.out.2.1.size (.cells z16.toArray 44)) hg3 (by have := HB2.out.2.1.size; simp; omega) (by have := HB2.out.2.1.size; intro k hk; injection hk with hk; omega)
  have hs3 : w2.heap.size + 1 ≤ w3.heap.size := by have := hg3.size; simpa using this
  have HB3 := Lib.hid (And.intro hb3 (And.intro hz3 (And.intro bel3 hs3)))
  clear hb3 hg3 hz3 bel3 hs3
  go_wp2_with (refine wpList_load_blk rfl 44 (.tmp 7) rfl w2.heap.size rfl 44 (ls.map u32v) HB3.out.1 16 43 Try.underlying44 (cells16 ls HLS.out) ?_; rw [HAS.out])
  refine (HCC.out _).mono ?_
  rintro e w4 ⟨rfl, hb4⟩
  have HB4 := Lib.hid (show Blk w4 w2.heap.size 44 (ls.map u32v) ∧ Blk w4 (w.heap.size + 2) 63 z64 ∧ Below w.heap.size w w4 ∧ w2.heap.size + 1 ≤ w4.heap.size from ⟨HB3.out.1.below hb4 HB3.out.1.lt, HB3.out.2.1.below hb4 HB3.out.2.1.lt, HB3.out.2.2.1.trans (hb4.mono HB3.out.2.2.1.size), Nat.le_trans HB3.out.2.2.2 hb4.size⟩)
  clear HB3 hb4
  go_upto_region 3 with (refine wpList_store_blk rfl 44 (.tmp 8) (.tmp 17) rfl w4.heap.size (lm.map u32v) rfl (by rw [HAM.out]; rfl) 44 z16 (Blk.new w4 44 z16) (cells16 lm HLM.out) (by rw [List.length_map, HLM.out]; rfl) (u32v_one _) ?_; intro w5 hb5 hg5)
  simp only [Act.put]
  have HB5 := Lib.hid (show Blk w5 w4.heap.size 44 (lm.map u32v) ∧ Blk w5 w2.heap.size 44 (ls.map u32v) ∧ Blk w5 (w.heap.size + 2) 63 z64 ∧ Below w.heap.size w w5 ∧ w4.heap.size + 1 ≤ w5.heap.size by
    have h1 := HB4.out.2.2.2
    have h2 := HB2.out.2.2
    have h3 := HB4.out.2.2.1.size
    exact ⟨hb5, (HB4.out.1.alloc _).grown hg5 (by simp; omega), (HB4.out.2.1.alloc _).grown hg5 (by simp; omega), Below.grown (HB4.out.2.2.1.alloc h3 (.cells z16.toArray 44)) hg5 (by simp; omega) (by intro k hk; injection hk with hk; omega), by have := hg5.size; simpa using this⟩)
  have HO := Lib.hid (show w.heap.size + 2 < w2.heap.size ∧ w2.heap.size < w4.heap.size ∧ w4.heap.size < w5.heap.size by
    have h1 := HB4.out.2.2.2
    have h2 := HB2.out.2.2
    have h3 := HB5.out.2.2.2.2
    omega)
  clear hb5 hg5 HB4 HB2
  generalize w2.heap.size = P at HB5 HO ⊢
  generalize w4.heap.size = Q at HB5 HO ⊢
  go_upto_region 5 with fail
  have h64 : z64.toArray = #[.int .u8 0, .int .u8 0, .int .u8 0, .int .u8 0, .int .u8 0, .int .u8 0, .int .u8 0, .int .u8 0, .int .u8 0, .int .u8 0, .int .u8 0, .int .u8 0, .int .u8 0, .int .u8 0, .int .u8 0, .int .u8 0, .int .u8 0, .int .u8 0, .int .u8 0, .int .u8 0, .int .u8 0, .int .u8 0, .int .u8 0, .int .u8 0, .int .u8 0, .int .u8 0, .int .u8 0, .int .u8 0, .int .u8 0, .int .u8 0, .int .u8 0, .int .u8 0, .int .u8 0, .int .u8 0, .int .u8 0, .int .u8 0, .int .u8 0, .int .u8 0, .int .u8 0, .int .u8 0, .int .u8 0, .int .u8 0, .int .u8 0, .int .u8 0, .int .u8 0, .int .u8 0, .int .u8 0, .int .u8 0, .int .u8 0, .int .u8 0, .int .u8 0, .int .u8 0, .int .u8 0, .int .u8 0, .int .u8 0, .int .u8 0, .int .u8 0, .int .u8 0, .int .u8 0, .int .u8 0, .int .u8 0, .int .u8 0, .int .u8 0, .int .u8 0] := rfl
  have h1 := HB5.out.1.alloc (.cells z64.toArray 63)
  have h2 := HB5.out.2.1.alloc (.cells z64.toArray 63)
  have h3 := HB5.out.2.2.1.alloc (.cells z64.toArray 63)
  have h4 := HB5.out.2.2.2.1.alloc HB5.out.2.2.2.1.size (.cells z64.toArray 63)
  have h5 : Blk (w5.alloc (.cells z64.toArray 63)) w5.heap.size 63 z64 := Blk.new w5 _ _
  rw [h64] at h1 h2 h3 h4 h5
  generalize w5.alloc (.cells #[.int .u8 0, .int .u8 0, .int .u8 0, .int .u8 0, .int .u8 0, .int .u8 0, .int .u8 0, .int .u8 0, .int .u8 0, .int .u8 0, .int .u8 0, .int .u8 0, .int .u8 0, .int .u8 0, .int .u8 0, .int .u8 0, .int .u8 0, .int .u8 0, .int .u8 0, .int .u8 0, .int .u8 0, .int .u8 0, .int .u8 0, .int .u8 0, .int .u8 0, .int .u8 0, .int .u8 0, .int .u8 0, .int .u8 0, .int .u8 0, .int .u8 0, .int .u8 0, .int .u8 0, .int .u8 0, .int .u8 0, .int .u8 0, .int .u8 0, .int .u8 0, .int .u8 0, .int .u8 0, .int .u8 0, .int .u8 0, .int .u8 0, .int .u8 0, .int .u8 0, .int .u8 0, .int .u8 0, .int .u8 0, .int .u8 0, .int .u8 0, .int .u8 0, .int .u8 0, .int .u8 0, .int .u8 0, .int .u8 0, .int .u8 0, .int .u8 0, .int .u8 0, .int .u8 0, .int .u8 0, .int .u8 0, .int .u8 0, .int .u8 0, .int .u8 0] 63) = w6 at h1 h2 h3 h4 h5 ⊢
  clear h64 HB5
  generalize w5.heap.size = R at h5 HO ⊢
  have HB6 := Lib.hid (And.intro h1 (And.intro h2 (And.intro h3 (And.intro h5 h4))))
  clear h1 h2 h3 h4 h5
  go_loopw [18, 10, 11] (fun i _ _ wr => ∃ j : Nat, j ≤ 16 ∧ i = .int .i64 j ∧ Blk wr Q 44 (lm.map u32v) ∧ Blk wr P 44 (ls.map u32v) ∧ Blk wr (w.heap.size + 2) 63 z64 ∧ Blk wr R 63 ((rowB ws j).map u8v) ∧ Below w.heap.size w wr) (fun i _ _ _ => 16 - (intOf i).toNat)
  case atStart => exact ⟨0, by omega, rfl, HB6.out.1, HB6.out.2.1, HB6.out.2.2.1, by rw [rowB_zero]; exact HB6.out.2.2.2.1, HB6.out.2.2.2.2⟩
  case round =>
    clear HB6
    obtain ⟨j, hj, rfl, hq, hp, hz, hr, hbel⟩ := hrel
    by_cases hlt : j < 16
    · have d16 : decide ((j : Int) < 16) = true := by simp; omega
      have fx := hp.word j (by have := HLS.out; omega)
      have fy := hq.word j (by have := HLM.out; omega)
      have HB7 := Lib.hid (And.intro hq (And.intro hp (And.intro hz (And.intro hr hbel))))
      have HE := Lib.hid (HWD.out j hlt)
      have HL := Lib.hid (fun w' : World => little_any (wd ws j).toNat (by have := (wd ws j).toNat_lt; omega) 4 (by omega) (by omega) w')
      clear hq hp hz hr hbel
      go_upto_region 7 with fail
      go_region
      simp only [u32_sum, HE.out]
      clear fx fy d16
      have hwr : IntKind.i64.wrap ((j : Int) * 4) = (j : Int) * 4 := IntWalk.i64_in _ (by omega)
      have hwc : IntKind.u64.wrap ((wd ws j).toNat : Int) = ((wd ws j).toNat : Int) := by
        have := (wd ws j).toNat_lt
        rw [IntKind.wrap_u64]
        omega
      have hsl : ∀ w' : World, (Instr.sliceAt 63 (.pointer (some ⟨R, 0, none⟩)) (some (.int .i64 ((j : Int) * 4))) none none).run Try.prog w' = .ok (.slice (some ⟨R, j * 4, none⟩) (64 - j * 4) (64 - j * 4)) w' :=
        fun w' => run_slice_array_from (P := Try.prog) w' 63 5 64 Try.underlying63 i0 hi hz1 R .i64 (j * 4) ((j : Int) * 4) (by omega) (by omega)
      go_wp2_with fail
      refine wp_region_held_drew (S := fun _ => True) (by kernel_rfl) (trivial) (fun hHeld => ?_)
      refine take_first (v := ?_) 0 rfl (by kernel_rfl) (by kernel_rfl) (by kernel_rfl) (fun _ _ _ h => h) (Or.inl ⟨by rfl, ?_⟩) (by assumption) ?_
      rotate_left
      · (intro w hSw; (try dsimp only at hSw); go_simp; try with_reducible rfl)
      (try simp only [Act.put, List.setIfInBounds_toArray, List.set_cons_zero, List.set_cons_succ])
      refine take_first (v := ?_) 1 rfl (by kernel_rfl) (by kernel_rfl) (by kernel_rfl) (fun _ _ _ h => h) (Or.inl ⟨by rfl, ?_⟩) (by assumption) ?_
      rotate_left
      · (intro w hSw; (try dsimp only at hSw); go_simp; try with_reducible rfl)
      (try simp only [Act.put, List.setIfInBounds_toArray, List.set_cons_zero, List.set_cons_succ])
      refine take_first (v := ?_) 2 rfl (by kernel_rfl) (by kernel_rfl) (by kernel_rfl) (fun _ _ _ h => h) (Or.inl ⟨by rfl, ?_⟩) (by assumption) ?_
      rotate_left
      · (intro w hSw; (try dsimp only at hSw); go_simp; try with_reducible rfl)
      (try simp only [Act.put, List.setIfInBounds_toArray, List.set_cons_zero, List.set_cons_succ])
      refine take_first (v := ?_) 3 rfl (by kernel_rfl) (by kernel_rfl) (by kernel_rfl) (fun _ _ _ h => h) (Or.inl ⟨by rfl, ?_⟩) (by assumption) ?_
      rotate_left
      · (intro w hSw; (try dsimp only at hSw); go_simp; try with_reducible rfl)
      (try simp only [Act.put, List.setIfInBounds_toArray, List.set_cons_zero, List.set_cons_succ])
      refine take_first (v := ?_) 4 rfl (by kernel_rfl) (by kernel_rfl) (by kernel_rfl) (fun _ _ _ h => h) (Or.inl ⟨by rfl, ?_⟩) (by assumption) ?_
      rotate_left
      · (intro w hSw; (try dsimp only at hSw); go_simp; try with_reducible rfl)
      (try simp only [Act.put, List.setIfInBounds_toArray, List.set_cons_zero, List.set_cons_succ])
      refine step_one 5 rfl (by kernel_rfl) (fun K hK => ?_)
      go_simp
      refine (HL.out _).mono ?_
      rintro e wq ⟨rfl, hown, hbq⟩
      have hlt8 := hbq.size
      have HB8 := Lib.hid (show Blk wq Q 44 (lm.map u32v) ∧ Blk wq P 44 (ls.map u32v) ∧ Blk wq (w.heap.size + 2) 63 z64 ∧ Blk wq R 63 ((rowB ws j).map u8v) ∧ Below w.heap.size w wq from ⟨HB7.out.1.drew.drew.below hbq HB7.out.1.lt, HB7.out.2.1.drew.drew.below hbq HB7.out.2.1.lt, HB7.out.2.2.1.drew.drew.below hbq HB7.out.2.2.1.lt, HB7.out.2.2.2.1.drew.drew.below hbq HB7.out.2.2.2.1.lt, HB7.out.2.2.2.2.drew.drew.trans (hbq.mono HB7.out.2.2.2.2.size)⟩)
      have HW := Lib.hid hown
      clear hown hbq
      go_wp2_with fail
      refine hK.out _ _ (trivial) (fun hHeld => ?_)
      clear hK K
      (try simp only [Act.put, List.setIfInBounds_toArray, List.set_cons_zero, List.set_cons_succ])
      refine step_one 6 rfl (by kernel_rfl) (fun K hK => ?_)
      refine step_copy_bytes _ rfl (.tmp 30) (.tmp 33) 27 27 (by rfl) 5 Try.underlying27 (by kernel_rfl) R (j * 4) (64 - j * 4) (64 - j * 4) ⟨wr.heap.size, 0, none⟩ 4 4 (by rfl) (by rfl) ((rowB ws j).map u8v) 63 HB8.out.2.2.2.1 ((littleL (wd ws j).toNat 4).map u8v) (by rw [List.length_map, littleL_length]; exact (Nat.min_eq_left (show 4 ≤ 64 - j * 4 by omega)).symm) ?_ (by simp only [List.length_map, littleL_length, rowB_length ws HWS.out j hj]; omega) (u8v_one _) ?_
      · intro i v h
        have h' : i < 4 := by
          have := (List.getElem?_eq_some_iff.1 h).1
          simpa [littleL_length] using this
        have := HW.out.cellAt i (by omega)
        rw [Go.WideShapes.add_plain, Nat.zero_add]
        exact this.trans h
      intro w8 hb8 hg8
      refine hK.out _ _ (trivial) (fun hHeld => ?_)
      clear hK K
      (try simp only [Act.put, List.setIfInBounds_toArray, List.set_cons_zero, List.set_cons_succ])
      refine wpAnyH_done (by kernel_rfl) ?_ _
      rw [Nat.mul_comm j 4, rowB_step ws HWS.out j hlt _ rfl] at hb8
      have HB9 := Lib.hid (show Blk w8 Q 44 (lm.map u32v) ∧ Blk w8 P 44 (ls.map u32v) ∧ Blk w8 (w.heap.size + 2) 63 z64 ∧ Blk w8 R 63 ((rowB ws (j + 1)).map u8v) ∧ Below w.heap.size w w8 by
        have := HO.out
        exact ⟨HB8.out.1.grown hg8 (by simp; omega), HB8.out.2.1.grown hg8 (by simp; omega), HB8.out.2.2.1.grown hg8 (by simp; omega), hb8, below_blk HB8.out.2.2.2.2 hg8 (by omega)⟩)
      clear hb8 hg8 HB8 HB7 HW hwr hwc hsl hlt8
      go_wp2
      go_roundw
      case rel => exact ⟨j + 1, by omega, by go_num, HB9.out.1, HB9.out.2.1, HB9.out.2.2.1, HB9.out.2.2.2.1, HB9.out.2.2.2.2⟩
      case measure => simp [intOf]; omega
    · obtain rfl : j = 16 := by omega
      rw [rowB_end ws HWS.out] at hr
      have HB := Lib.hid (And.intro hr (And.intro hz hbel))
      clear hr hz hbel hq hp
      have HLz := Lib.hid (show (bytesW ws).length = 64 by rw [bytesW_length, HWS.out])
      obtain ⟨lz, hlz⟩ : ∃ lz, bytesW ws = lz := ⟨_, rfl⟩
      rw [hlz] at HB HLz
      have HZ := Lib.hid (HEB.out.trans hlz)
      obtain ⟨cz, hcz⟩ : ∃ cz, (lz.map u8v).toArray = cz := ⟨_, rfl⟩
      have HCZ := Lib.hid hcz
      clear hcz hlz
      go_wp2_with (first | (refine wpList_load_blk rfl 63 (.tmp 9) rfl R rfl 63 (lz.map u8v) HB.out.1 64 5 Try.underlying63 (cells64 lz HLz.out) ?_; rw [HCZ.out]) | (refine wpList_store_blk rfl 63 (.tmp 6) (.tmp 36) rfl (w.heap.size + 2) (lz.map u8v) rfl (by show Value.agg cz = _; rw [HCZ.out]) 63 z64 HB.out.2.1 (cells64 lz HLz.out) (by rw [List.length_map, HLz.out]; rfl) (u8v_one _) ?_; intro w9 hb9 hg9))
      exact bodyPost_ret (results_blk rfl _ _ (w.heap.size + 2) 63 (lz.map u8v) 64 5 rfl hb9 Try.underlying63 (cells64 lz HLz.out)) rfl ⟨by rw [HZ.out], below_blk HB.out.2.2 hg9 (by omega)⟩
end Go.Proofs.Ytkbefhmgcodpaaa
