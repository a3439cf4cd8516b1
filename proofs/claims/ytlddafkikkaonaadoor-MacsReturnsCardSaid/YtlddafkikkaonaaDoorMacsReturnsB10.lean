/-
  The contract of chacha.Block: the words of the initial state plus those of Core of it, each as four bytes. The mathematics of numbers of five limbs of 26 bits, as the program's Poly1305 keeps them: carries, sums, products and their values modulo 2^130 - 5. The mathematics of Poly1305's key and pieces as the program reads them: masks of words, the number of a piece, the last sum. The contract of the program's carry over its five limbs. No statement is proved here.
-/
import Derived.Laws.BitsAllLaws
import Derived.Laws.Bits64
import Derived.Laws.ShiftsVarLaws
import Derived.RegionTactic
import Derived.BigRegion
import Derived.Deep.DeepCutAuto
import Derived.Test.YtlddafkikkaonaaDoorMacsReturnsB9
namespace Go.Proofs.YtlddafkikkaonaaDoor
open Go.RowKit

/-- sixty-four bytes, all 0 -/
def z64 : List Value := List.replicate 64 (.int .u8 0)
/-- the bytes of the first j words, then zeros -/
def bytesW (ws : List UInt32) : List UInt8 := ws.flatMap fun x => littleL x.toNat 4
theorem bytesW_length : ∀ ws : List UInt32, (bytesW ws).length = 4 * ws.length
  | [] => rfl
  | x :: ws => by
    have := bytesW_length ws
    simp only [bytesW, List.flatMap_cons, List.length_append, littleL_length, List.length_cons] at this ⊢
    omega
def rowB (ws : List UInt32) (j : Nat) : List UInt8 := bytesW (ws.take j) ++ List.replicate (64 - 4 * j) 0
theorem rowB_length (ws : List UInt32) (h : ws.length = 16) (j : Nat) (hj : j ≤ 16) : (rowB ws j).length = 64 := by
  simp only [rowB, List.length_append, bytesW_length, List.length_take, List.length_replicate]
  omega
theorem rowB_zero (ws : List UInt32) : (rowB ws 0).map u8v = z64 := by
  simp [rowB, bytesW, z64, u8v]
theorem rowB_end (ws : List UInt32) (h : ws.length = 16) : rowB ws 16 = bytesW ws := by
  simp [rowB, List.take_of_length_le (show ws.length ≤ 16 by omega)]
theorem rowB_step (ws : List UInt32) (h : ws.length = 16) (j : Nat) (hj : j < 16) (cs : List Value) (hcs : cs = (littleL (wd ws j).toNat 4).map u8v) :
    ((rowB ws j).map u8v).take (4 * j) ++ cs ++ ((rowB ws j).map u8v).drop (4 * j + cs.length) = (rowB ws (j + 1)).map u8v := by
  have hl : (bytesW (ws.take j)).length = 4 * j := by rw [bytesW_length, List.length_take]; omega
  have h4 : cs.length = 4 := by rw [hcs, List.length_map, littleL_length]
  have e1 : ((rowB ws j).map u8v).take (4 * j) = (bytesW (ws.take j)).map u8v := by
    rw [← List.map_take, rowB, List.take_append_of_le_length (by omega), List.take_of_length_le (by omega)]
  have e2 : ((rowB ws j).map u8v).drop (4 * j + cs.length) = (List.replicate (64 - 4 * (j + 1)) 0).map u8v := by
    rw [h4, ← List.map_drop, rowB, List.drop_append, List.drop_of_length_le (by omega), hl, List.nil_append, List.drop_replicate]
    congr 2
    omega
  rw [e1, e2, hcs]
  have e3 : ws.take (j + 1) = ws.take j ++ [wd ws j] := by
    rw [List.take_succ_eq_append_getElem (by omega)]
    simp [wd, List.getD, h, hj]
  rw [rowB, e3]
  simp [bytesW]

theorem cells64 (l : List UInt8) (h : l.length = 64) : (Tryd.prog.info? 123).map (·.size) = some (l.map u8v).length := by
  rw [List.length_map, h]; kernel_rfl
theorem cells12 (l : List UInt8) (h : l.length = 12) : (Tryd.prog.info? 102).map (·.size) = some (l.map u8v).length := by
  rw [List.length_map, h]; kernel_rfl
theorem word_of (l m : List UInt32) (j : Nat) (hl : l.length = 16) (hm : m.length = 16) (hj : j < 16) : wd (l.zipWith (· + ·) m) j = wd l j + wd m j := by
  simp [wd, List.getD, hl, hm, hj]

set_option maxRecDepth 100000 in
set_option maxHeartbeats 4000000 in
theorem block_any (k n : List UInt8) (hk : k.length = 32) (hn : n.length = 12) (c : UInt32) (w : World) :
    Calls Tryd.prog 91 #[.agg (k.map u8v).toArray, .int .u32 (c.toNat : Int), .agg (n.map u8v).toArray] w fun e w' => e = .returned (.agg ((blockL k c n).map u8v).toArray) ∧ Below w.heap.size w w' := by
  obtain ⟨i0, hi, hz0, hz1, hz2⟩ := info_parts Tryd.info5
  have SC := fun w' : World => state_any k n hk hn c w'
  obtain ⟨ck, hck⟩ : ∃ ck, (k.map u8v).toArray = ck := ⟨_, rfl⟩
  obtain ⟨cn, hcn⟩ : ∃ cn, (n.map u8v).toArray = cn := ⟨_, rfl⟩
  rw [hck, hcn] at SC
  obtain ⟨ls, hls⟩ : ∃ ls, stateW k c n = ls := ⟨_, rfl⟩
  have HLS := Lib.hid (show ls.length = 16 by rw [← hls]; exact stateW_length k c n)
  rw [hls] at SC
  obtain ⟨sa, has⟩ : ∃ sa, (ls.map u32v).toArray = sa := ⟨_, rfl⟩
  rw [has] at SC
  have CC := fun w' : World => core_any ls HLS.out w'
  obtain ⟨lm, hlm⟩ : ∃ lm, coreW 10 ls = lm := ⟨_, rfl⟩
  have HLM := Lib.hid (show lm.length = 16 by rw [← hlm, coreW_length]; exact HLS.out)
  rw [has, hlm] at CC
  obtain ⟨sm, ham⟩ : ∃ sm, (lm.map u32v).toArray = sm := ⟨_, rfl⟩
  rw [ham] at CC
  have EB : blockL k c n = bytesW (lm.zipWith (· + ·) ls) := by rw [← hlm, ← hls]; rfl
  obtain ⟨ws, hws⟩ : ∃ ws, lm.zipWith (· + ·) ls = ws := ⟨_, rfl⟩
  have HWS := Lib.hid (show ws.length = 16 by rw [← hws, List.length_zipWith, HLS.out, HLM.out]; rfl)
  have HWD := Lib.hid (fun (j : Nat) (hj : j < 16) => show wd ls j + wd lm j = wd ws j by rw [← hws, word_of lm ls j HLM.out HLS.out hj, UInt32.add_comm])
  rw [hws] at EB
  rw [hck, hcn]
  have HK0 := Lib.hid (show Blk (w.alloc (.cells ck 23)) w.heap.size 23 (k.map u8v) by rw [← hck]; exact Blk.new w _ _)
  have HN0 := Lib.hid (show Blk ((w.alloc (.cells ck 23)).alloc (.cells cn 102)) (w.heap.size + 1) 102 (n.map u8v) by rw [← hcn]; exact Blk.new' _ (by simp) _ _)
  have HCK := Lib.hid hck
  have HCN := Lib.hid hcn
  have HAS := Lib.hid has
  have HAM := Lib.hid ham
  have HEB := Lib.hid EB
  have HSC := Lib.hid SC
  have HCC := Lib.hid CC
  have HK := Lib.hid hk
  have HN := Lib.hid hn
  clear hk hn hck hcn has ham EB SC CC hls hlm hws
  go_enter Tryd.func91, Tryd.ntmps91
  go_upto_region 1 with fail
  have hk1 := (HK0.out.alloc (.cells cn 102)).alloc (.cells z64.toArray 123)
  have hn1 := HN0.out.alloc (.cells z64.toArray 123)
  have hz1' : Blk (((w.alloc (.cells ck 23)).alloc (.cells cn 102)).alloc (.cells z64.toArray 123)) (w.heap.size + 2) 123 z64 := Blk.new' _ (by simp) _ _
  have hbel1 : Below w.heap.size w (((w.alloc (.cells ck 23)).alloc (.cells cn 102)).alloc (.cells z64.toArray 123)) := (((Below.refl _ _).alloc (Nat.le_refl _) _).alloc (by simp) _).alloc (by simp; omega) _
  have hs1 : w.heap.size + 3 ≤ (((w.alloc (.cells ck 23)).alloc (.cells cn 102)).alloc (.cells z64.toArray 123)).heap.size := by simp
  clear HK0 HN0
  have e64 : z64.toArray = #[.int .u8 0, .int .u8 0, .int .u8 0, .int .u8 0, .int .u8 0, .int .u8 0, .int .u8 0, .int .u8 0, .int .u8 0, .int .u8 0, .int .u8 0, .int .u8 0, .int .u8 0, .int .u8 0, .int .u8 0, .int .u8 0, .int .u8 0, .int .u8 0, .int .u8 0, .int .u8 0, .int .u8 0, .int .u8 0, .int .u8 0, .int .u8 0, .int .u8 0, .int .u8 0, .int .u8 0, .int .u8 0, .int .u8 0, .int .u8 0, .int .u8 0, .int .u8 0, .int .u8 0, .int .u8 0, .int .u8 0, .int .u8 0, .int .u8 0, .int .u8 0, .int .u8 0, .int .u8 0, .int .u8 0, .int .u8 0, .int .u8 0, .int .u8 0, .int .u8 0, .int .u8 0, .int .u8 0, .int .u8 0, .int .u8 0, .int .u8 0, .int .u8 0, .int .u8 0, .int .u8 0, .int .u8 0, .int .u8 0, .int .u8 0, .int .u8 0, .int .u8 0, .int .u8 0, .int .u8 0, .int .u8 0, .int .u8 0, .int .u8 0, .int .u8 0] := rfl
  rw [e64] at hk1 hn1 hz1' hbel1 hs1
  generalize (((w.alloc (.cells ck 23)).alloc (.cells cn 102)).alloc (.cells #[.int .u8 0, .int .u8 0, .int .u8 0, .int .u8 0, .int .u8 0, .int .u8 0, .int .u8 0, .int .u8 0, .int .u8 0, .int .u8 0, .int .u8 0, .int .u8 0, .int .u8 0, .int .u8 0, .int .u8 0, .int .u8 0, .int .u8 0, .int .u8 0, .int .u8 0, .int .u8 0, .int .u8 0, .int .u8 0, .int .u8 0, .int .u8 0, .int .u8 0, .int .u8 0, .int .u8 0, .int .u8 0, .int .u8 0, .int .u8 0, .int .u8 0, .int .u8 0, .int .u8 0, .int .u8 0, .int .u8 0, .int .u8 0, .int .u8 0, .int .u8 0, .int .u8 0, .int .u8 0, .int .u8 0, .int .u8 0, .int .u8 0, .int .u8 0, .int .u8 0, .int .u8 0, .int .u8 0, .int .u8 0, .int .u8 0, .int .u8 0, .int .u8 0, .int .u8 0, .int .u8 0, .int .u8 0, .int .u8 0, .int .u8 0, .int .u8 0, .int .u8 0, .int .u8 0, .int .u8 0, .int .u8 0, .int .u8 0, .int .u8 0, .int .u8 0] 123)) = W1 at hk1 hn1 hz1' hbel1 hs1 ⊢
  clear e64
  rw [show w.heap.size + 1 + 1 = w.heap.size + 2 from rfl]
  have HS1 := Lib.hid hs1
  clear hs1
  go_wp2_with (first | (refine wpList_load_blk rfl 23 (.tmp 3) rfl w.heap.size rfl 23 (k.map u8v) hk1 32 5 Tryd.underlying23 (cells32 k HK.out) ?_; rw [HCK.out]) | (refine wpList_load_blk rfl 102 (.tmp 5) rfl (w.heap.size + 1) rfl 102 (n.map u8v) hn1 12 5 Tryd.underlying102 (cells12 n HN.out) ?_; rw [HCN.out]))
  refine (HSC.out _).mono ?_
  rintro e w2 ⟨rfl, hb2⟩
  have hz2' := hz1'.below hb2 hz1'.lt
  have bel2 := hbel1.trans (hb2.mono hbel1.size)
  have hs2 : w.heap.size + 3 ≤ w2.heap.size := Nat.le_trans HS1.out hb2.size
  have HB2 := Lib.hid (And.intro hz2' (And.intro bel2 hs2))
  clear hz1' hbel1 hb2 hz2' bel2 hs2 hk1 hn1 HS1
  go_upto_region 2 with (refine wpList_store_blk rfl 120 (.tmp 7) (.tmp 15) rfl w2.heap.size (ls.map u32v) rfl (by rw [HAS.out]; rfl) 120 z16 (Blk.new w2 120 z16) (cells16 ls HLS.out) (by rw [List.length_map, HLS.out]; rfl) (u32v_one _) ?_; intro w3 hb3 hg3)
  simp only [Act.put]
  have hz3 := (HB2.out.1.alloc (.cells z16.toArray 120)).grown hg3 (by have := HB2.out.2.2; simp; omega)
  have bel3 := Below.grown (HB2.out.2.1.alloc HB2.out.2.1.size (.cells z16.toArray 120)) hg3 (by have := HB2.out.2.1.size; simp; omega) (by have := HB2.out.2.1.size; intro k hk; injection hk with hk; omega)
  have hs3 : w2.heap.size + 1 ≤ w3.heap.size := by have := hg3.size; simpa using this
  have HB3 := Lib.hid (And.intro hb3 (And.intro hz3 (And.intro bel3 hs3)))
  clear hb3 hg3 hz3 bel3 hs3
  go_wp2_with (refine wpList_load_blk rfl 120 (.tmp 7) rfl w2.heap.size rfl 120 (ls.map u32v) HB3.out.1 16 31 Tryd.underlying120 (cells16 ls HLS.out) ?_; rw [HAS.out])
  refine (HCC.out _).mono ?_
  rintro e w4 ⟨rfl, hb4⟩
  have HB4 := Lib.hid (show Blk w4 w2.heap.size 120 (ls.map u32v) ∧ Blk w4 (w.heap.size + 2) 123 z64 ∧ Below w.heap.size w w4 ∧ w2.heap.size + 1 ≤ w4.heap.size from ⟨HB3.out.1.below hb4 HB3.out.1.lt, HB3.out.2.1.below hb4 HB3.out.2.1.lt, HB3.out.2.2.1.trans (hb4.mono HB3.out.2.2.1.size), Nat.le_trans HB3.out.2.2.2 hb4.size⟩)
  clear HB3 hb4
  go_upto_region 3 with (refine wpList_store_blk rfl 120 (.tmp 8) (.tmp 17) rfl w4.heap.size (lm.map u32v) rfl (by rw [HAM.out]; rfl) 120 z16 (Blk.new w4 120 z16) (cells16 lm HLM.out) (by rw [List.length_map, HLM.out]; rfl) (u32v_one _) ?_; intro w5 hb5 hg5)
  simp only [Act.put]
  have HB5 := Lib.hid (show Blk w5 w4.heap.size 120 (lm.map u32v) ∧ Blk w5 w2.heap.size 120 (ls.map u32v) ∧ Blk w5 (w.heap.size + 2) 123 z64 ∧ Below w.heap.size w w5 ∧ w4.heap.size + 1 ≤ w5.heap.size by
    have h1 := HB4.out.2.2.2
    have h2 := HB2.out.2.2
    have h3 := HB4.out.2.2.1.size
    exact ⟨hb5, (HB4.out.1.alloc _).grown hg5 (by simp; omega), (HB4.out.2.1.alloc _).grown hg5 (by simp; omega), Below.grown (HB4.out.2.2.1.alloc h3 (.cells z16.toArray 120)) hg5 (by simp; omega) (by intro k hk; injection hk with hk; omega), by have := hg5.size; simpa using this⟩)
  have HO := Lib.hid (show w.heap.size + 2 < w2.heap.size ∧ w2.heap.size < w4.heap.size ∧ w4.heap.size < w5.heap.size by
    have h1 := HB4.out.2.2.2
    have h2 := HB2.out.2.2
    have h3 := HB5.out.2.2.2.2
    omega)
  clear hb5 hg5 HB4 HB2
  generalize w2.heap.size = P at HB5 HO ⊢
  generalize w4.heap.size = Q at HB5 HO ⊢
  go_upto_region 5 with fail
  have h64 : z64.toArray = #[.int .u8 0, .int .u8 0, .int .u8 0, .int .u8 0, .int .u8 0, .int .u8 0, .int .u8 0, .int .u8 0, .int .u8 0, .int .u8 0, .int .u8 0, .int .u8 0, .int .u8 0, .int .u8 0, .int .u8 0, .int .u8 0, .int .u8 0, .int .u8 0, .int .u8 0, .int .u8 0, .int .u8 0, .int .u8 0, .int .u8 0, .int .u8 0, .int .u8 0, .int .u8 0, .int .u8 0, .int .u8 0, .int .u8 0, .int .u8 0, .int .u8 0, .int .u8 0, .int .u8 0, .int .u8 0, .int .u8 0, .int .u8 0, .int .u8 0, .int .u8 0, .int .u8 0, .int .u8 0, .int .u8 0, .int .u8 0, .int .u8 0, .int .u8 0, .int .u8 0, .int .u8 0, .int .u8 0, .int .u8 0, .int .u8 0, .int .u8 0, .int .u8 0, .int .u8 0, .int .u8 0, .int .u8 0, .int .u8 0, .int .u8 0, .int .u8 0, .int .u8 0, .int .u8 0, .int .u8 0, .int .u8 0, .int .u8 0, .int .u8 0, .int .u8 0] := rfl
  have h1 := HB5.out.1.alloc (.cells z64.toArray 123)
  have h2 := HB5.out.2.1.alloc (.cells z64.toArray 123)
  have h3 := HB5.out.2.2.1.alloc (.cells z64.toArray 123)
  have h4 := HB5.out.2.2.2.1.alloc HB5.out.2.2.2.1.size (.cells z64.toArray 123)
  have h5 : Blk (w5.alloc (.cells z64.toArray 123)) w5.heap.size 123 z64 := Blk.new w5 _ _
  rw [h64] at h1 h2 h3 h4 h5
  generalize w5.alloc (.cells #[.int .u8 0, .int .u8 0, .int .u8 0, .int .u8 0, .int .u8 0, .int .u8 0, .int .u8 0, .int .u8 0, .int .u8 0, .int .u8 0, .int .u8 0, .int .u8 0, .int .u8 0, .int .u8 0, .int .u8 0, .int .u8 0, .int .u8 0, .int .u8 0, .int .u8 0, .int .u8 0, .int .u8 0, .int .u8 0, .int .u8 0, .int .u8 0, .int .u8 0, .int .u8 0, .int .u8 0, .int .u8 0, .int .u8 0, .int .u8 0, .int .u8 0, .int .u8 0, .int .u8 0, .int .u8 0, .int .u8 0, .int .u8 0, .int .u8 0, .int .u8 0, .int .u8 0, .int .u8 0, .int .u8 0, .int .u8 0, .int .u8 0, .int .u8 0, .int .u8 0, .int .u8 0, .int .u8 0, .int .u8 0, .int .u8 0, .int .u8 0, .int .u8 0, .int .u8 0, .int .u8 0, .int .u8 0, .int .u8 0, .int .u8 0, .int .u8 0, .int .u8 0, .int .u8 0, .int .u8 0, .int .u8 0, .int .u8 0, .int .u8 0, .int .u8 0] 123) = w6 at h1 h2 h3 h4 h5 ⊢
  clear h64 HB5
  generalize w5.heap.size = R at h5 HO ⊢
  have HB6 := Lib.hid (And.intro h1 (And.intro h2 (And.intro h3 (And.intro h5 h4))))
  clear h1 h2 h3 h4 h5
  go_loopw [18, 10, 11] (fun i _ _ wr => ∃ j : Nat, j ≤ 16 ∧ i = .int .i64 j ∧ Blk wr Q 120 (lm.map u32v) ∧ Blk wr P 120 (ls.map u32v) ∧ Blk wr (w.heap.size + 2) 123 z64 ∧ Blk wr R 123 ((rowB ws j).map u8v) ∧ Below w.heap.size w wr) (fun i _ _ _ => 16 - (intOf i).toNat)
  case atStart => exact ⟨0, by omega, rfl, HB6.out.1, HB6.out.2.1, HB6.out.2.2.1, by rw [rowB_zero]; exact HB6.out.2.2.2.1, HB6.out.2.2.2.2⟩
  case round =>
    clear HB6
    obtain ⟨j, hj, rfl, hq, hp, hz, hr, hbel⟩ := hrel
    by_cases hlt : j < 16
    · have d16 : decide ((j : Int) < 16) = true := by simp; omega
      have fx := hp.word j (by have := HLS.out; omega)
      have fy := hq.word j (by have := HLM.out; omega)
      have HB7 := Lib.hid (And.intro hq (And.intro hp (And.intro hz (And.intro hr hbel))))
      have HE := Lib.hid (HWD.out j hlt)
      have HL := Lib.hid (fun w' : World => little_any (wd ws j).toNat (by have := (wd ws j).toNat_lt; omega) 4 (by omega) (by omega) w')
      clear hq hp hz hr hbel
      go_upto_region 7 with fail
      go_region
      simp only [u32_sum, HE.out]
      clear fx fy d16
      have hwr : IntKind.i64.wrap ((j : Int) * 4) = (j : Int) * 4 := IntWalk.i64_in _ (by omega)
      have hwc : IntKind.u64.wrap ((wd ws j).toNat : Int) = ((wd ws j).toNat : Int) := by
        have := (wd ws j).toNat_lt
        rw [IntKind.wrap_u64]
        omega
      have hsl : ∀ w' : World, (Instr.sliceAt 123 (.pointer (some ⟨R, 0, none⟩)) (some (.int .i64 ((j : Int) * 4))) none none).run Tryd.prog w' = .ok (.slice (some ⟨R, j * 4, none⟩) (64 - j * 4) (64 - j * 4)) w' :=
        fun w' => run_slice_array_from (P := Tryd.prog) w' 123 5 64 Tryd.underlying123 i0 hi hz1 R .i64 (j * 4) ((j : Int) * 4) (by omega) (by omega)
      go_wp2_with fail
      refine wp_region_held_drew (S := fun _ => True) (by kernel_rfl) (trivial) (fun hHeld => ?_)
      refine take_first (v := ?_) 0 rfl (by kernel_rfl) (by kernel_rfl) (by kernel_rfl) (fun _ _ _ h => h) (Or.inl ⟨by rfl, ?_⟩) (by assumption) ?_
      rotate_left
      · (intro w hSw; (try dsimp only at hSw); go_simp; try with_reducible rfl)
      (try simp only [Act.put, List.setIfInBounds_toArray, List.set_cons_zero, List.set_cons_succ])
      refine take_first (v := ?_) 1 rfl (by kernel_rfl) (by kernel_rfl) (by kernel_rfl) (fun _ _ _ h => h) (Or.inl ⟨by rfl, ?_⟩) (by assumption) ?_
      rotate_left
      · (intro w hSw; (try dsimp only at hSw); go_simp; try with_reducible rfl)
      (try simp only [Act.put, List.setIfInBounds_toArray, List.set_cons_zero, List.set_cons_succ])
      refine take_first (v := ?_) 2 rfl (by kernel_rfl) (by kernel_rfl) (by kernel_rfl) (fun _ _ _ h => h) (Or.inl ⟨by rfl, ?_⟩) (by assumption) ?_
      rotate_left
      · (intro w hSw; (try dsimp only at hSw); go_simp; try with_reducible rfl)
      (try simp only [Act.put, List.setIfInBounds_toArray, List.set_cons_zero, List.set_cons_succ])
      refine take_first (v := ?_) 3 rfl (by kernel_rfl) (by kernel_rfl) (by kernel_rfl) (fun _ _ _ h => h) (Or.inl ⟨by rfl, ?_⟩) (by assumption) ?_
      rotate_left
      · (intro w hSw; (try dsimp only at hSw); go_simp; try with_reducible rfl)
      (try simp only [Act.put, List.setIfInBounds_toArray, List.set_cons_zero, List.set_cons_succ])
      refine take_first (v := ?_) 4 rfl (by kernel_rfl) (by kernel_rfl) (by kernel_rfl) (fun _ _ _ h => h) (Or.inl ⟨by rfl, ?_⟩) (by assumption) ?_
      rotate_left
      · (intro w hSw; (try dsimp only at hSw); go_simp; try with_reducible rfl)
      (try simp only [Act.put, List.setIfInBounds_toArray, List.set_cons_zero, List.set_cons_succ])
      refine step_one 5 rfl (by kernel_rfl) (fun K hK => ?_)
      go_simp
      refine (HL.out _).mono ?_
      rintro e wq ⟨rfl, hown, hbq⟩
      have hlt8 := hbq.size
      have HB8 := Lib.hid (show Blk wq Q 120 (lm.map u32v) ∧ Blk wq P 120 (ls.map u32v) ∧ Blk wq (w.heap.size + 2) 123 z64 ∧ Blk wq R 123 ((rowB ws j).map u8v) ∧ Below w.heap.size w wq from ⟨HB7.out.1.drew.drew.below hbq HB7.out.1.lt, HB7.out.2.1.drew.drew.below hbq HB7.out.2.1.lt, HB7.out.2.2.1.drew.drew.below hbq HB7.out.2.2.1.lt, HB7.out.2.2.2.1.drew.drew.below hbq HB7.out.2.2.2.1.lt, HB7.out.2.2.2.2.drew.drew.trans (hbq.mono HB7.out.2.2.2.2.size)⟩)
      have HW := Lib.hid hown
      clear hown hbq
      go_wp2_with fail
      refine hK.out _ _ (trivial) (fun hHeld => ?_)
      clear hK K
      (try simp only [Act.put, List.setIfInBounds_toArray, List.set_cons_zero, List.set_cons_succ])
      refine step_one 6 rfl (by kernel_rfl) (fun K hK => ?_)
      refine step_copy_bytes _ rfl (.tmp 30) (.tmp 33) 24 24 (by rfl) 5 Tryd.underlying24 (by kernel_rfl) R (j * 4) (64 - j * 4) (64 - j * 4) ⟨wr.heap.size, 0, none⟩ 4 4 (by rfl) (by rfl) ((rowB ws j).map u8v) 123 HB8.out.2.2.2.1 ((littleL (wd ws j).toNat 4).map u8v) (by rw [List.length_map, littleL_length]; exact (Nat.min_eq_left (show 4 ≤ 64 - j * 4 by omega)).symm) ?_ (by simp only [List.length_map, littleL_length, rowB_length ws HWS.out j hj]; omega) (u8v_one _) ?_
      · intro i v h
        have h' : i < 4 := by
          have := (List.getElem?_eq_some_iff.1 h).1
          simpa [littleL_length] using this
        have := HW.out.cellAt i (by omega)
        rw [Go.WideShapes.add_plain, Nat.zero_add]
        exact this.trans h
      intro w8 hb8 hg8
      refine hK.out _ _ (trivial) (fun hHeld => ?_)
      clear hK K
      (try simp only [Act.put, List.setIfInBounds_toArray, List.set_cons_zero, List.set_cons_succ])
      refine wpAnyH_done (by kernel_rfl) ?_ _
      rw [Nat.mul_comm j 4, rowB_step ws HWS.out j hlt _ rfl] at hb8
      have HB9 := Lib.hid (show Blk w8 Q 120 (lm.map u32v) ∧ Blk w8 P 120 (ls.map u32v) ∧ Blk w8 (w.heap.size + 2) 123 z64 ∧ Blk w8 R 123 ((rowB ws (j + 1)).map u8v) ∧ Below w.heap.size w w8 by
        have := HO.out
        exact ⟨HB8.out.1.grown hg8 (by simp; omega), HB8.out.2.1.grown hg8 (by simp; omega), HB8.out.2.2.1.grown hg8 (by simp; omega), hb8, below_blk HB8.out.2.2.2.2 hg8 (by omega)⟩)
      clear hb8 hg8 HB8 HB7 HW hwr hwc hsl hlt8
      go_wp2
      go_roundw
      case rel => exact ⟨j + 1, by omega, by go_num, HB9.out.1, HB9.out.2.1, HB9.out.2.2.1, HB9.out.2.2.2.1, HB9.out.2.2.2.2⟩
      case measure => simp [intOf]; omega
    · obtain rfl : j = 16 := by omega
      rw [rowB_end ws HWS.out] at hr
      have HB := Lib.hid (And.intro hr (And.intro hz hbel))
      clear hr hz hbel hq hp
      have HLz := Lib.hid (show (bytesW ws).length = 64 by rw [bytesW_length, HWS.out])
      obtain ⟨lz, hlz⟩ : ∃ lz, bytesW ws = lz := ⟨_, rfl⟩
      rw [hlz] at HB HLz
      have HZ := Lib.hid (HEB.out.trans hlz)
      obtain ⟨cz, hcz⟩ : ∃ cz, (lz.map u8v).toArray = cz := ⟨_, rfl⟩
      have HCZ := Lib.hid hcz
      clear hcz hlz
      go_wp2_with (first | (refine wpList_load_blk rfl 123 (.tmp 9) rfl R rfl 123 (lz.map u8v) HB.out.1 64 5 Tryd.underlying123 (cells64 lz HLz.out) ?_; rw [HCZ.out]) | (refine wpList_store_blk rfl 123 (.tmp 6) (.tmp 36) rfl (w.heap.size + 2) (lz.map u8v) rfl (by show Value.agg cz = _; rw [HCZ.out]) 123 z64 HB.out.2.1 (cells64 lz HLz.out) (by rw [List.length_map, HLz.out]; rfl) (u8v_one _) ?_; intro w9 hb9 hg9))
      exact bodyPost_ret (results_blk rfl _ _ (w.heap.size + 2) 123 (lz.map u8v) 64 5 rfl hb9 Tryd.underlying123 (cells64 lz HLz.out)) rfl ⟨by rw [HZ.out], below_blk HB.out.2.2 hg9 (by omega)⟩
end Go.Proofs.YtlddafkikkaonaaDoor
namespace Go.Proofs.YtlddafkikkaonaaDoor
open Go.RowKit

/-- the value of five limbs -/
def val5 (l : List Nat) : Nat := sumTo (fun i => dg l i * 67108864 ^ i) 5
theorem val5_eq (l : List Nat) : val5 l = dg l 0 + dg l 1 * 67108864 + dg l 2 * 4503599627370496 + dg l 3 * 302231454903657293676544 + dg l 4 * 20282409603651670423947251286016 := by
  simp [val5, sumTo]
/-- the first i rounds of a carry: the limbs, and what goes over -/
def cst (l : List Nat) : Nat → List Nat × Nat
  | 0 => (l, 0)
  | i + 1 => ((cst l i).1.set i ((dg (cst l i).1 i + (cst l i).2) % 67108864), (dg (cst l i).1 i + (cst l i).2) / 67108864)
def carryN (l : List Nat) : List Nat := (cst l 5).1.set 0 (dg (cst l 5).1 0 + 5 * (cst l 5).2)
theorem cst_length (l : List Nat) : ∀ j, (cst l j).1.length = l.length
  | 0 => rfl
  | j + 1 => by rw [cst, List.length_set, cst_length]
theorem cst_above (l : List Nat) : ∀ j i, j ≤ i → j ≤ l.length → dg (cst l j).1 i = dg l i
  | 0, _, _, _ => rfl
  | j + 1, i, h, hl => by
    rw [cst, dg_set _ _ _ _ (by rw [cst_length]; omega), if_neg (by omega), cst_above l j i (by omega) (by omega)]
theorem cst_below (l : List Nat) : ∀ j i, i < j → j ≤ l.length → dg (cst l j).1 i < 67108864
  | 0, _, h, _ => absurd h (by omega)
  | j + 1, i, h, hl => by
    rw [cst, dg_set _ _ _ _ (by rw [cst_length]; omega)]
    split
    · exact Nat.mod_lt _ (by omega)
    · exact cst_below l j i (by omega) (by omega)
theorem cst_carry (l : List Nat) (M : Nat) (hM : ∀ i, dg l i ≤ 67108863 * M) : ∀ j, j ≤ l.length → (cst l j).2 ≤ M
  | 0, _ => Nat.zero_le _
  | j + 1, hj => by
    have h1 := cst_carry l M hM j (by omega)
    have h2 := cst_above l j j (Nat.le_refl _) (by omega)
    have h3 := hM j
    show (dg (cst l j).1 j + (cst l j).2) / 67108864 ≤ M
    rw [h2]
    omega
theorem val5_cst (l : List Nat) (hl : l.length = 5) : val5 (cst l 5).1 + (cst l 5).2 * 1361129467683753853853498429727072845824 = val5 l := by
  have e : ∀ j, j < 5 → ∃ s, dg l j + (cst l j).2 = s ∧ dg (cst l 5).1 j = s % 67108864 ∧ (cst l (j + 1)).2 = s / 67108864 := by
    intro j hj
    refine ⟨_, rfl, ?_, ?_⟩
    · have h1 : ∀ k, j < k → k ≤ 5 → dg (cst l k).1 j = (dg l j + (cst l j).2) % 67108864 := by
        intro k
        induction k with
        | zero => intro h; omega
        | succ k ih =>
          intro h hk
          rw [cst, dg_set _ _ _ _ (by rw [cst_length]; omega)]
          by_cases e : j = k
          · subst e; rw [if_pos rfl, cst_above l j j (Nat.le_refl _) (by omega)]
          · rw [if_neg e]; exact ih (by omega) (by omega)
      exact h1 5 hj (by omega)
    · show (dg (cst l j).1 j + (cst l j).2) / 67108864 = _
      rw [cst_above l j j (Nat.le_refl _) (by omega)]
  obtain ⟨s0, a0, b0, c0⟩ := e 0 (by omega)
  obtain ⟨s1, a1, b1, c1⟩ := e 1 (by omega)
  obtain ⟨s2, a2, b2, c2⟩ := e 2 (by omega)
  obtain ⟨s3, a3, b3, c3⟩ := e 3 (by omega)
  obtain ⟨s4, a4, b4, c4⟩ := e 4 (by omega)
  rw [show (cst l 0).2 = 0 from rfl] at a0
  rw [show 0 + 1 = 1 from rfl] at c0
  rw [show 1 + 1 = 2 from rfl] at c1
  rw [show 2 + 1 = 3 from rfl] at c2
  rw [show 3 + 1 = 4 from rfl] at c3
  rw [show 4 + 1 = 5 from rfl] at c4
  rw [val5_eq, val5_eq, b0, b1, b2, b3, b4]
  generalize (cst l 5).2 = u5 at *
  generalize (cst l 4).2 = u4 at *
  generalize (cst l 3).2 = u3 at *
  generalize (cst l 2).2 = u2 at *
  generalize (cst l 1).2 = u1 at *
  generalize dg l 0 = d0 at *
  generalize dg l 1 = d1 at *
  generalize dg l 2 = d2 at *
  generalize dg l 3 = d3 at *
  generalize dg l 4 = d4 at *
  have g0 := Nat.div_add_mod s0 67108864
  have g1 := Nat.div_add_mod s1 67108864
  have g2 := Nat.div_add_mod s2 67108864
  have g3 := Nat.div_add_mod s3 67108864
  have g4 := Nat.div_add_mod s4 67108864
  rw [← c0] at g0
  rw [← c1] at g1
  rw [← c2] at g2
  rw [← c3] at g3
  rw [← c4] at g4
  generalize s0 % 67108864 = r0 at *
  generalize s1 % 67108864 = r1 at *
  generalize s2 % 67108864 = r2 at *
  generalize s3 % 67108864 = r3 at *
  generalize s4 % 67108864 = r4 at *
  clear c0 c1 c2 c3 c4 b0 b1 b2 b3 b4 e
  omega
theorem cst_lt (l : List Nat) (hl : l.length = 5) : val5 (cst l 5).1 < 1361129467683753853853498429727072845824 := by
  rw [val5_eq]
  have h0 := cst_below l 5 0 (by omega) (by omega)
  have h1 := cst_below l 5 1 (by omega) (by omega)
  have h2 := cst_below l 5 2 (by omega) (by omega)
  have h3 := cst_below l 5 3 (by omega) (by omega)
  have h4 := cst_below l 5 4 (by omega) (by omega)
  omega
theorem cst_over (l : List Nat) (hl : l.length = 5) : (cst l 5).2 = val5 l / 1361129467683753853853498429727072845824 ∧ val5 (cst l 5).1 = val5 l % 1361129467683753853853498429727072845824 := by
  have h1 := val5_cst l hl
  have h2 := cst_lt l hl
  omega
theorem carryN_length (l : List Nat) : (carryN l).length = l.length := by rw [carryN, List.length_set, cst_length]
theorem carryN_val (l : List Nat) (hl : l.length = 5) : val5 (carryN l) = val5 l % 1361129467683753853853498429727072845824 + 5 * (val5 l / 1361129467683753853853498429727072845824) := by
  obtain ⟨h1, h2⟩ := cst_over l hl
  have e : val5 (carryN l) = val5 (cst l 5).1 + 5 * (cst l 5).2 := by
    rw [val5_eq, val5_eq, carryN]
    simp only [dg_set _ _ _ _ (show 0 < (cst l 5).1.length by rw [cst_length]; omega)]
    simp
    omega
  rw [e, h1, h2]
theorem carryN_mod (l : List Nat) (hl : l.length = 5) : val5 (carryN l) % primeP = val5 l % primeP := by
  have h := carryN_val l hl
  have h2 := Nat.div_add_mod (val5 l) 1361129467683753853853498429727072845824
  have : val5 l = val5 (carryN l) + val5 l / 1361129467683753853853498429727072845824 * primeP := by
    rw [primeP]; omega
  rw [this, Nat.add_mul_mod_self_right]
theorem carryN_digit (l : List Nat) (hl : l.length = 5) (i : Nat) : dg (carryN l) i ≤ if i = 0 then 67108863 + 5 * (val5 l / 1361129467683753853853498429727072845824) else 67108863 := by
  obtain ⟨h1, _⟩ := cst_over l hl
  rw [carryN, dg_set _ _ _ _ (by rw [cst_length]; omega), h1]
  by_cases h5 : i < 5
  · have := cst_below l 5 i h5 (by omega)
    split
    · subst i; omega
    · omega
  · rw [if_neg (by omega), if_neg (by omega), dg_high _ _ (by rw [cst_length]; omega)]; omega

/-! two words and a top -/
def splitN (a b c : Nat) : List Nat := [a % 67108864, a / 67108864 % 67108864, a / 4503599627370496 + b % 16384 * 4096, b / 16384 % 67108864, b / 1099511627776 + c * 16777216]
theorem three_parts (a m n : Nat) : a = a % m + a / m % n * m + a / (m * n) * (m * n) := by
  have h1 := Nat.div_add_mod a m
  have h2 := Nat.div_add_mod (a / m) n
  rw [Nat.div_div_eq_div_mul] at h2
  generalize a / (m * n) = q at h2 ⊢
  generalize a / m % n = r at h2 ⊢
  have h3 : a / m * m = r * m + q * (m * n) := by
    rw [← h2, Nat.add_mul, Nat.mul_comm m n, ← Nat.mul_assoc, Nat.mul_comm q n]
    omega
  rw [Nat.mul_comm] at h1
  omega
theorem parts_low (a : Nat) : a = a % 67108864 + a / 67108864 % 67108864 * 67108864 + a / 4503599627370496 * 4503599627370496 := by
  have h1 := three_parts a 67108864 67108864
  rwa [show 67108864 * 67108864 = 4503599627370496 by decide] at h1
theorem parts_high (a : Nat) : a = a % 16384 + a / 16384 % 67108864 * 16384 + a / 1099511627776 * 1099511627776 := by
  have h1 := three_parts a 16384 67108864
  rwa [show 16384 * 67108864 = 1099511627776 by decide] at h1
theorem parts_sum (a a0 a1 a2 b b0 b1 b2 c : Nat) (h1 : a = a0 + a1 * 67108864 + a2 * 4503599627370496) (h2 : b = b0 + b1 * 16384 + b2 * 1099511627776) :
    a0 + a1 * 67108864 + (a2 + b0 * 4096) * 4503599627370496 + b1 * 302231454903657293676544 + (b2 + c * 16777216) * 20282409603651670423947251286016 = a + 18446744073709551616 * b + 340282366920938463463374607431768211456 * c := by
  subst h1 h2
  omega
theorem splitN_0 (a b c : Nat) : dg (splitN a b c) 0 = a % 67108864 := by unfold splitN dg; simp only [List.getD_cons_zero]
theorem splitN_1 (a b c : Nat) : dg (splitN a b c) 1 = a / 67108864 % 67108864 := by unfold splitN dg; simp only [List.getD_cons_zero, List.getD_cons_succ]
theorem splitN_2 (a b c : Nat) : dg (splitN a b c) 2 = a / 4503599627370496 + b % 16384 * 4096 := by unfold splitN dg; simp only [List.getD_cons_zero, List.getD_cons_succ]
theorem splitN_3 (a b c : Nat) : dg (splitN a b c) 3 = b / 16384 % 67108864 := by unfold splitN dg; simp only [List.getD_cons_zero, List.getD_cons_succ]
theorem splitN_4 (a b c : Nat) : dg (splitN a b c) 4 = b / 1099511627776 + c * 16777216 := by unfold splitN dg; simp only [List.getD_cons_zero, List.getD_cons_succ]
theorem splitN_val (a b c : Nat) : val5 (splitN a b c) = a + 18446744073709551616 * b + 340282366920938463463374607431768211456 * c := by
  rw [val5_eq, splitN_0, splitN_1, splitN_2, splitN_3, splitN_4]
  have h1 := parts_low a
  have h2 := parts_high b
  exact parts_sum a _ _ _ b _ _ _ c h1 h2
theorem splitN_le (a b c : Nat) (ha : a < 18446744073709551616) (hb : b < 18446744073709551616) (hc : c ≤ 3) : ∀ i, dg (splitN a b c) i ≤ 67108863 := fun i => by
  by_cases h : i < 5
  · have hi : i = 0 ∨ i = 1 ∨ i = 2 ∨ i = 3 ∨ i = 4 := by omega
    rcases hi with rfl | rfl | rfl | rfl | rfl <;> (first | rw [splitN_0] | rw [splitN_1] | rw [splitN_2] | rw [splitN_3] | rw [splitN_4])
    · exact Nat.le_of_lt_succ (Nat.mod_lt _ (by omega))
    · exact Nat.le_of_lt_succ (Nat.mod_lt _ (by omega))
    · have h1 : a / 4503599627370496 < 4096 := Nat.div_lt_of_lt_mul (by omega)
      have h2 := Nat.mod_lt b (show 16384 > 0 by omega)
      omega
    · exact Nat.le_of_lt_succ (Nat.mod_lt _ (by omega))
    · have h1 : b / 1099511627776 < 16777216 := Nat.div_lt_of_lt_mul (by omega)
      omega
  · rw [dg_high _ _ (by simp [splitN]; omega)]; omega
theorem splitN_length (a b c : Nat) : (splitN a b c).length = 5 := by simp [splitN]
/-- the two words of five limbs of 26 bits -/
def joinL (l : List Nat) : Nat := dg l 0 + dg l 1 * 67108864 + dg l 2 % 4096 * 4503599627370496
def joinH (l : List Nat) : Nat := dg l 2 / 4096 + dg l 3 * 16384 + dg l 4 % 16777216 * 1099511627776
theorem join_val (l : List Nat) (h : ∀ i, dg l i ≤ 67108863) : joinL l < 18446744073709551616 ∧ joinH l < 18446744073709551616 ∧ joinL l + 18446744073709551616 * joinH l = val5 l % 340282366920938463463374607431768211456 := by
  have h0 := h 0
  have h1 := h 1
  have h2 := h 2
  have h3 := h 3
  have h4 := h 4
  rw [val5_eq]
  unfold joinL joinH
  have g2 := Nat.div_add_mod (dg l 2) 4096
  have g4 := Nat.div_add_mod (dg l 4) 16777216
  have k2 := Nat.mod_lt (dg l 2) (show 4096 > 0 by omega)
  have k4 := Nat.mod_lt (dg l 4) (show 16777216 > 0 by omega)
  generalize dg l 2 % 4096 = r2 at *
  generalize dg l 2 / 4096 = q2 at *
  generalize dg l 4 % 16777216 = r4 at *
  generalize dg l 4 / 16777216 = q4 at *
  generalize dg l 0 = d0 at *
  generalize dg l 1 = d1 at *
  generalize dg l 2 = d2 at *
  generalize dg l 3 = d3 at *
  generalize dg l 4 = d4 at *
  clear h
  refine ⟨by omega, by omega, ?_⟩
  have e : d0 + d1 * 67108864 + d2 * 4503599627370496 + d3 * 302231454903657293676544 + d4 * 20282409603651670423947251286016 = d0 + d1 * 67108864 + r2 * 4503599627370496 + 18446744073709551616 * (q2 + d3 * 16384 + r4 * 1099511627776) + 340282366920938463463374607431768211456 * q4 := by omega
  rw [e, Nat.add_mul_mod_self_left, Nat.mod_eq_of_lt (by omega)]

/-! sums -/
def addS (x y : List Nat) : Nat → List Nat
  | 0 => x
  | i + 1 => (addS x y i).set i (dg (addS x y i) i + dg y i)
theorem addS_length (x y : List Nat) : ∀ j, (addS x y j).length = x.length
  | 0 => rfl
  | j + 1 => by rw [addS, List.length_set, addS_length]
theorem addS_dg (x y : List Nat) (hx : x.length = 5) : ∀ j i, j ≤ 5 → dg (addS x y j) i = if i < j then dg x i + dg y i else dg x i
  | 0, i, _ => by simp [addS]
  | j + 1, i, h => by
    rw [addS, dg_set _ _ _ _ (by rw [addS_length]; omega), addS_dg x y hx j j (by omega), addS_dg x y hx j i (by omega)]
    by_cases e : i = j
    · subst e; simp
    · rw [if_neg e]
      by_cases h2 : i < j
      · rw [if_pos h2, if_pos (by omega)]
      · rw [if_neg h2, if_neg (by omega)]
theorem addS_val (x y : List Nat) (hx : x.length = 5) : val5 (addS x y 5) = val5 x + val5 y := by
  unfold val5
  rw [← sumTo_add]
  exact sumTo_congr 5 fun i hi => by rw [addS_dg x y hx 5 i (by omega), if_pos hi, Nat.add_mul]

/-! products -/
/-- one term: x_i y_j goes to the limb i + j, or five times to the limb i + j - 5 -/
def term (x y P : List Nat) (i j : Nat) : List Nat :=
  if i + j < 5 then P.set (i + j) (dg P (i + j) + dg x i * dg y j) else P.set (i + j - 5) (dg P (i + j - 5) + 5 * dg x i * dg y j)
def terms (x y P : List Nat) (i : Nat) : Nat → List Nat
  | 0 => P
  | j + 1 => term x y (terms x y P i j) i j
def prod (x y : List Nat) : Nat → List Nat
  | 0 => List.replicate 5 0
  | i + 1 => terms x y (prod x y i) i 5
theorem term_length (x y P : List Nat) (i j : Nat) : (term x y P i j).length = P.length := by
  unfold term; split <;> simp
theorem terms_length (x y P : List Nat) (i : Nat) : ∀ j, (terms x y P i j).length = P.length
  | 0 => rfl
  | j + 1 => by rw [terms, term_length, terms_length]
theorem prod_length (x y : List Nat) : ∀ i, (prod x y i).length = 5
  | 0 => by simp [prod]
  | i + 1 => by rw [prod, terms_length, prod_length]
theorem term_le (x y P : List Nat) (X Y B : Nat) (hx : ∀ i, dg x i ≤ X) (hy : ∀ i, dg y i ≤ Y) (i j : Nat) (hi : i < 5) (hj : j < 5) (hP : P.length = 5) (hB : ∀ k, dg P k ≤ B) : ∀ k, dg (term x y P i j) k ≤ B + 5 * (X * Y) := by
  intro k
  have h1 := Nat.mul_le_mul (hx i) (hy j)
  have h2 := hB k
  unfold term
  split
  · rw [dg_set _ _ _ _ (by omega)]
    split
    · have := hB (i + j); omega
    · omega
  · rw [dg_set _ _ _ _ (by omega)]
    split
    · have := hB (i + j - 5)
      rw [Nat.mul_assoc]
      omega
    · omega
theorem terms_le (x y P : List Nat) (X Y B : Nat) (hx : ∀ i, dg x i ≤ X) (hy : ∀ i, dg y i ≤ Y) (i : Nat) (hi : i < 5) (hP : P.length = 5) (hB : ∀ k, dg P k ≤ B) : ∀ j, j ≤ 5 → ∀ k, dg (terms x y P i j) k ≤ B + j * (5 * (X * Y))
  | 0, _, k => by have := hB k; simpa [terms] using this
  | j + 1, h, k => by
    have := term_le x y (terms x y P i j) X Y _ hx hy i j hi (by omega) (by rw [terms_length, hP]) (terms_le x y P X Y B hx hy i hi hP hB j (by omega)) k
    rw [terms, Nat.add_mul]
    omega
theorem prod_le (x y : List Nat) (X Y : Nat) (hx : ∀ i, dg x i ≤ X) (hy : ∀ i, dg y i ≤ Y) : ∀ i, i ≤ 5 → ∀ k, dg (prod x y i) k ≤ i * (5 * (5 * (X * Y)))
  | 0, _, k => by
    have : dg (prod x y 0) k = 0 := by
      simp only [prod, dg, List.getD, List.getElem?_replicate]
      split <;> simp
    omega
  | i + 1, h, k => by
    have := terms_le x y (prod x y i) X Y _ hx hy i (by omega) (prod_length x y i) (prod_le x y X Y hx hy i (by omega)) 5 (by omega) k
    rw [prod, Nat.add_mul]
    omega
theorem val5_set (l : List Nat) (j x : Nat) (hl : l.length = 5) (hj : j < 5) : val5 (l.set j (dg l j + x)) = val5 l + x * 67108864 ^ j := by
  have h := sumTo_set (fun i => dg l i * 67108864 ^ i) j ((dg l j + x) * 67108864 ^ j) 5 hj
  have e : val5 (l.set j (dg l j + x)) = sumTo (fun i => if i = j then (dg l j + x) * 67108864 ^ j else dg l i * 67108864 ^ i) 5 := by
    unfold val5
    refine sumTo_congr 5 fun i hi => ?_
    rw [dg_set _ _ _ _ (by omega)]
    by_cases e : i = j
    · subst e; simp
    · simp [e]
  have e2 : val5 l = sumTo (fun i => dg l i * 67108864 ^ i) 5 := rfl
  rw [e, e2]
  rw [Nat.add_mul] at h ⊢
  omega
theorem fold_pow (t : Nat) (h : 5 ≤ t) : (67108864 : Nat) ^ t = 67108864 ^ (t - 5) * (primeP + 5) := by
  obtain ⟨s, rfl⟩ : ∃ s, t = s + 5 := ⟨t - 5, by omega⟩
  rw [Nat.add_sub_cancel, Nat.pow_add, show (67108864 : Nat) ^ 5 = primeP + 5 by decide]
theorem term_val (x y P : List Nat) (i j : Nat) (hi : i < 5) (hj : j < 5) (hP : P.length = 5) : val5 (term x y P i j) % primeP = (val5 P + dg x i * 67108864 ^ i * (dg y j * 67108864 ^ j)) % primeP := by
  have e : dg x i * 67108864 ^ i * (dg y j * 67108864 ^ j) = dg x i * dg y j * 67108864 ^ (i + j) := by
    rw [Nat.pow_add]
    simp only [Nat.mul_assoc]
    congr 1
    simp only [← Nat.mul_assoc]
    rw [Nat.mul_comm (67108864 ^ i) (dg y j)]
  rw [e]
  unfold term
  split
  · rw [val5_set P (i + j) _ hP (by omega)]
  · rename_i h
    rw [val5_set P (i + j - 5) _ hP (by omega), fold_pow (i + j) (by omega)]
    have e2 : val5 P + dg x i * dg y j * (67108864 ^ (i + j - 5) * (primeP + 5)) = val5 P + 5 * dg x i * dg y j * 67108864 ^ (i + j - 5) + dg x i * dg y j * 67108864 ^ (i + j - 5) * primeP := by
      rw [Nat.mul_add, Nat.mul_add, Nat.mul_assoc 5, ← Nat.mul_assoc (dg x i * dg y j), ← Nat.mul_assoc (dg x i * dg y j)]
      rw [show 5 * (dg x i * dg y j) * 67108864 ^ (i + j - 5) = dg x i * dg y j * 67108864 ^ (i + j - 5) * 5 by rw [Nat.mul_assoc, Nat.mul_comm]]
      omega
    exact ((congrArg (· % primeP) e2).trans (Nat.add_mul_mod_self_right _ _ _)).symm
theorem terms_val (x y P : List Nat) (i : Nat) (hi : i < 5) (hP : P.length = 5) (j : Nat) (hj : j ≤ 5) : val5 (terms x y P i j) % primeP = (val5 P + dg x i * 67108864 ^ i * sumTo (fun j => dg y j * 67108864 ^ j) j) % primeP := by
  induction j with
  | zero => rw [show terms x y P i 0 = P from rfl, show sumTo (fun j => dg y j * 67108864 ^ j) 0 = 0 from rfl, Nat.mul_zero, Nat.add_zero]
  | succ j ih =>
    have h1 := term_val x y (terms x y P i j) i j hi (by omega) (by rw [terms_length, hP])
    have h2 := ih (by omega)
    rw [show terms x y P i (j + 1) = term x y (terms x y P i j) i j from rfl, h1, show sumTo (fun j => dg y j * 67108864 ^ j) (j + 1) = sumTo (fun j => dg y j * 67108864 ^ j) j + dg y j * 67108864 ^ j from rfl]
    generalize dg y j * 67108864 ^ j = b
    generalize sumTo (fun j => dg y j * 67108864 ^ j) j = c at h2 ⊢
    generalize dg x i * 67108864 ^ i = a at h2 ⊢
    generalize val5 (terms x y P i j) = V at h2 ⊢
    rw [Nat.mul_add, Nat.add_mod, h2, ← Nat.add_mod, Nat.add_assoc]
theorem prod_zero (x y : List Nat) : val5 (prod x y 0) = 0 := by
  rw [val5_eq]
  simp [prod, dg]
theorem prod_val (x y : List Nat) (i : Nat) (hi : i ≤ 5) : val5 (prod x y i) % primeP = (sumTo (fun i => dg x i * 67108864 ^ i) i * val5 y) % primeP := by
  induction i with
  | zero => rw [prod_zero, show sumTo (fun i => dg x i * 67108864 ^ i) 0 = 0 from rfl, Nat.zero_mul]
  | succ i ih =>
    have h1 := terms_val x y (prod x y i) i (by omega) (prod_length x y i) 5 (by omega)
    have h2 := ih (by omega)
    rw [show sumTo (fun j => dg y j * 67108864 ^ j) 5 = val5 y from rfl] at h1
    rw [show prod x y (i + 1) = terms x y (prod x y i) i 5 from rfl, h1, show sumTo (fun i => dg x i * 67108864 ^ i) (i + 1) = sumTo (fun i => dg x i * 67108864 ^ i) i + dg x i * 67108864 ^ i from rfl]
    generalize dg x i * 67108864 ^ i = b
    generalize sumTo (fun i => dg x i * 67108864 ^ i) i = c at h2 ⊢
    generalize val5 (prod x y i) = V at h2 ⊢
    rw [Nat.add_mul, Nat.add_mod, h2, ← Nat.add_mod]
def mulN (x y : List Nat) : List Nat := carryN (carryN (prod x y 5))
theorem mulN_length (x y : List Nat) : (mulN x y).length = 5 := by rw [mulN, carryN_length, carryN_length, prod_length]
theorem mulN_val (x y : List Nat) : val5 (mulN x y) % primeP = val5 x * val5 y % primeP := by
  rw [mulN, carryN_mod _ (by rw [carryN_length, prod_length]), carryN_mod _ (prod_length x y 5), prod_val x y 5 (by omega), show sumTo (fun i => dg x i * 67108864 ^ i) 5 = val5 x from rfl]
/-- limbs of 26 bits, the lowest one with 5 more at most: what multiply returns -/
def tight (l : List Nat) : Prop := l.length = 5 ∧ ∀ i, dg l i ≤ if i = 0 then 67108868 else 67108863
theorem prod_val_lt (x y : List Nat) (hx : ∀ i, dg x i ≤ 268435455) (hy : ∀ i, dg y i ≤ 67108863) : val5 (prod x y 5) < 68719476736 * 1361129467683753853853498429727072845824 := by
  have hp := prod_le x y _ _ hx hy 5 (by omega)
  rw [val5_eq]
  have h0 := hp 0
  have h1 := hp 1
  have h2 := hp 2
  have h3 := hp 3
  have h4 := hp 4
  omega
theorem mulN_tight (x y : List Nat) (hx : ∀ i, dg x i ≤ 268435455) (hy : ∀ i, dg y i ≤ 67108863) : tight (mulN x y) := by
  have hv := prod_val_lt x y hx hy
  have h1 := carryN_val _ (prod_length x y 5)
  have hl : (carryN (prod x y 5)).length = 5 := by rw [carryN_length, prod_length]
  refine ⟨mulN_length x y, fun i => ?_⟩
  have h2 := carryN_digit _ hl i
  have h3 : val5 (carryN (prod x y 5)) / 1361129467683753853853498429727072845824 ≤ 1 := by omega
  unfold mulN
  split
  · rw [if_pos (by assumption)] at h2; omega
  · rw [if_neg (by assumption)] at h2; omega

theorem and_join (b c x y : Nat) (hb : b < 256) (hc : c < 256) : (b + 256 * x) &&& (c + 256 * y) = (b &&& c) + 256 * (x &&& y) := by
  have h1 : ((b + 256 * x) &&& (c + 256 * y)) % 2 ^ 8 = (b + 256 * x) % 2 ^ 8 &&& (c + 256 * y) % 2 ^ 8 := Nat.and_mod_two_pow
  have h2 : ((b + 256 * x) &&& (c + 256 * y)) / 2 ^ 8 = (b + 256 * x) / 2 ^ 8 &&& (c + 256 * y) / 2 ^ 8 := Nat.and_div_two_pow
  rw [show (b + 256 * x) % 2 ^ 8 = b by omega, show (c + 256 * y) % 2 ^ 8 = c by omega] at h1
  rw [show (b + 256 * x) / 2 ^ 8 = x by omega, show (c + 256 * y) / 2 ^ 8 = y by omega] at h2
  generalize (b + 256 * x) &&& (c + 256 * y) = z at *
  omega
theorem numL_and : ∀ l m : List UInt8, l.length = m.length → numL l &&& numL m = numL (l.zipWith (· &&& ·) m)
  | [], [], _ => by simp [numL]
  | [], _ :: _, h => by simp at h
  | _ :: _, [], h => by simp at h
  | b :: l, c :: m, h => by
    rw [numL, numL, and_join _ _ _ _ b.toNat_lt c.toNat_lt, numL_and l m (by simpa using h), List.zipWith_cons_cons, numL, UInt8.toNat_and]
def maskLow : List UInt8 := [255, 255, 255, 15, 252, 255, 255, 15]
def maskHigh : List UInt8 := [252, 255, 255, 15, 252, 255, 255, 15]
theorem maskLow_num : numL maskLow = 1152921487695413247 := by decide
theorem maskHigh_num : numL maskHigh = 1152921487695413244 := by decide
def lowW (k : List UInt8) : Nat := numL (k.take 8)
def highW (k : List UInt8) : Nat := numL ((k.drop 8).take 8)
theorem take8_lt (l : List UInt8) : numL (l.take 8) < 18446744073709551616 := by
  have h := numL_take_lt l 8
  rwa [show 2 ^ (8 * 8) = 18446744073709551616 by decide] at h
theorem rN_words (k : List UInt8) (hk : 16 ≤ k.length) : rN k = (lowW k &&& 1152921487695413247) + 18446744073709551616 * (highW k &&& 1152921487695413244) := by
  have hl1 : (k.take 8).length = 8 := by rw [List.length_take]; omega
  have hl2 : ((k.drop 8).take 8).length = 8 := by rw [List.length_take, List.length_drop]; omega
  rw [← maskLow_num, ← maskHigh_num, lowW, highW, numL_and _ _ (by rw [hl1]; rfl), numL_and _ _ (by rw [hl2]; rfl)]
  have hz : ((k.take 8).zipWith (· &&& ·) maskLow).length = 8 := by rw [List.length_zipWith, hl1]; rfl
  have ha := numL_append ((k.take 8).zipWith (· &&& ·) maskLow) (((k.drop 8).take 8).zipWith (· &&& ·) maskHigh)
  rw [hz, show 256 ^ 8 = 18446744073709551616 by decide] at ha
  rw [← ha, rN]
  refine valN_bytes _ _ (by simp; omega) fun i hi => ?_
  have e : dg (rDig k) i = clampD k i := by simp [dg, rDig, List.getD, hi]
  rw [e]
  have hb : ∀ j, j < 16 → ((k.take 8).zipWith (· &&& ·) maskLow ++ ((k.drop 8).take 8).zipWith (· &&& ·) maskHigh).getD j 0 = (k.getD j 0) &&& ((maskLow ++ maskHigh).getD j 0) := by
    intro j hj
    simp only [List.getD]
    rw [List.getElem?_append, hz]
    have hml : maskLow.length = 8 := rfl
    have hmh : maskHigh.length = 8 := rfl
    by_cases h8 : j < 8
    · rw [if_pos h8, List.getElem?_append_left (by omega), List.getElem?_zipWith, List.getElem?_take, if_pos h8, List.getElem?_eq_getElem (show j < k.length by omega), List.getElem?_eq_getElem (show j < maskLow.length by omega)]
      rfl
    · rw [if_neg h8, List.getElem?_append_right (by omega), hml, List.getElem?_zipWith, List.getElem?_take, if_pos (by omega), List.getElem?_drop, show 8 + (j - 8) = j by omega, List.getElem?_eq_getElem (show j < k.length by omega), List.getElem?_eq_getElem (show j - 8 < maskHigh.length by omega)]
      rfl
  by_cases h16 : i < 16
  · rw [hb i h16, UInt8.toNat_and]
    unfold clampD
    have hlt := (k.getD i 0).toNat_lt
    generalize (k.getD i 0).toNat = b at hlt ⊢
    have h255 : b &&& 255 = b := by
      have := Nat.and_two_pow_sub_one_eq_mod b 8
      rw [show 2 ^ 8 - 1 = 255 by decide] at this
      omega
    have hc : i = 0 ∨ i = 1 ∨ i = 2 ∨ i = 3 ∨ i = 4 ∨ i = 5 ∨ i = 6 ∨ i = 7 ∨ i = 8 ∨ i = 9 ∨ i = 10 ∨ i = 11 ∨ i = 12 ∨ i = 13 ∨ i = 14 ∨ i = 15 := by omega
    rcases hc with rfl | rfl | rfl | rfl | rfl | rfl | rfl | rfl | rfl | rfl | rfl | rfl | rfl | rfl | rfl | rfl <;> simp [maskLow, maskHigh, h255]
  · obtain rfl : i = 16 := by omega
    have : clampD k 16 = 0 := by simp [clampD]
    rw [this, List.getD, List.getElem?_eq_none (by rw [List.length_append, hz, List.length_zipWith, hl2]; exact Nat.le_of_eq rfl)]
    rfl
theorem rN_zero_words (k : List UInt8) : (lowW k &&& 1152921487695413247) < 18446744073709551616 ∧ (highW k &&& 1152921487695413244) < 18446744073709551616 := by
  have h1 := Nat.and_le_right (n := lowW k) (m := 1152921487695413247)
  have h2 := Nat.and_le_right (n := highW k) (m := 1152921487695413244)
  omega
def facN (k : List UInt8) : List Nat := splitN (lowW k &&& 1152921487695413247) (highW k &&& 1152921487695413244) 0
theorem facN_val (k : List UInt8) (hk : 16 ≤ k.length) : val5 (facN k) = rN k := by rw [facN, splitN_val, rN_words k hk]; omega
theorem facN_le (k : List UInt8) : ∀ i, dg (facN k) i ≤ 67108863 := splitN_le _ _ _ (rN_zero_words k).1 (rN_zero_words k).2 (by omega)

/-! pieces -/
def bytesP (p : List UInt8) : List UInt8 := p ++ 1 :: List.replicate (16 - p.length) 0
theorem bytesP_length (p : List UInt8) (h : p.length ≤ 16) : (bytesP p).length = 17 := by simp [bytesP]; omega
theorem numL_zeros : ∀ n, numL (List.replicate n 0) = 0
  | 0 => rfl
  | n + 1 => by rw [List.replicate_succ, numL, numL_zeros n]; rfl
theorem bytesP_num (p : List UInt8) : numL (bytesP p) = numL p + 256 ^ p.length := by
  rw [bytesP, numL_append, numL, numL_zeros]
  simp
def topW (p : List UInt8) : Nat := ((bytesP p).getD 16 0).toNat
def numP (p : List UInt8) : List Nat := splitN (lowW (bytesP p)) (highW (bytesP p)) (topW p)
theorem topW_le (p : List UInt8) (h : p.length ≤ 16) : topW p ≤ 1 := by
  unfold topW bytesP
  simp only [List.getD, List.getElem?_append]
  by_cases e : p.length = 16
  · rw [if_neg (by omega), e]
    simp
  · rw [if_neg (by omega), show 16 - p.length = (15 - p.length) + 1 by omega, List.getElem?_cons_succ, List.getElem?_replicate]
    split <;> simp
theorem numP_val (p : List UInt8) (h : p.length ≤ 16) : val5 (numP p) = numL p + 256 ^ p.length := by
  rw [numP, splitN_val, ← bytesP_num]
  have hl := bytesP_length p h
  have hd : (bytesP p).drop 16 = [(bytesP p).getD 16 0] := by
    apply List.ext_getElem
    · simp [hl]
    · intro i h1 h2
      have : i = 0 := by simpa using h2
      subst this
      simp [hl]
  have e1 : bytesP p = (bytesP p).take 8 ++ (((bytesP p).drop 8).take 8 ++ (bytesP p).drop 16) := by
    rw [← List.drop_drop (i := 8) (j := 8), List.take_append_drop, List.take_append_drop]
  have h1 := numL_append ((bytesP p).take 8) (((bytesP p).drop 8).take 8 ++ (bytesP p).drop 16)
  have h2 := numL_append (((bytesP p).drop 8).take 8) ((bytesP p).drop 16)
  rw [← e1, List.length_take, hl] at h1
  rw [List.length_take, List.length_drop, hl, hd] at h2
  rw [h1, hd, h2]
  unfold lowW highW topW
  rw [numL, numL]
  generalize numL ((bytesP p).take 8) = A
  generalize numL (((bytesP p).drop 8).take 8) = B
  generalize ((bytesP p).getD 16 0).toNat = C
  rw [show min 8 17 = 8 by decide, show min 8 (17 - 8) = 8 by decide, show 256 ^ 8 = 18446744073709551616 by decide]
  omega
theorem numP_le (p : List UInt8) (h : p.length ≤ 16) : ∀ i, dg (numP p) i ≤ 67108863 := splitN_le _ _ _ (take8_lt _) (take8_lt _) (by have := topW_le p h; omega)

/-! the last sum -/
def raised (n : List Nat) : List Nat := n.set 0 (dg n 0 + 5)
theorem tight_lt {n : List Nat} (h : tight n) : val5 n ≤ 1361129467683753853853498429727072845828 := by
  rw [val5_eq]
  have h0 := h.2 0
  have h1 := h.2 1
  have h2 := h.2 2
  have h3 := h.2 3
  have h4 := h.2 4
  simp at h0 h1 h2 h3 h4
  omega
theorem raised_val (n : List Nat) (h : n.length = 5) : val5 (raised n) = val5 n + 5 := by
  have := val5_set n 0 5 h (by omega)
  rw [raised, this, Nat.pow_zero, Nat.mul_one]
theorem raised_length (n : List Nat) : (raised n).length = n.length := by rw [raised, List.length_set]
theorem raised_carry {n : List Nat} (h : tight n) : val5 (carryN (raised n)) = val5 n % primeP + 5 ∧ ∀ i, dg (carryN (raised n)) i ≤ 67108863 := by
  have hlt := tight_lt h
  have hr := raised_val n h.1
  have hl : (raised n).length = 5 := by rw [raised_length, h.1]
  have hc := carryN_val _ hl
  rw [hr] at hc
  have hp : primeP = 1361129467683753853853498429727072845819 := rfl
  have hd := fun i => carryN_digit _ hl i
  rw [hr] at hd
  by_cases h1 : val5 n < primeP
  · have hq : (val5 n + 5) / 1361129467683753853853498429727072845824 = 0 := Nat.div_eq_of_lt (by omega)
    rw [hq] at hc hd
    refine ⟨by rw [hc, Nat.mod_eq_of_lt h1, Nat.mod_eq_of_lt (by omega)], fun i => ?_⟩
    have := hd i
    split at this <;> omega
  · have hq : (val5 n + 5) / 1361129467683753853853498429727072845824 = 1 := by omega
    have hm : (val5 n + 5) % 1361129467683753853853498429727072845824 = val5 n + 5 - 1361129467683753853853498429727072845824 := by omega
    have hmp : val5 n % primeP = val5 n - primeP := by rw [Nat.mod_eq_sub_mod (by omega), Nat.mod_eq_of_lt (by omega)]
    rw [hq, hm] at hc
    have hv : val5 (carryN (raised n)) = val5 n % primeP + 5 := by rw [hc, hmp]; omega
    refine ⟨hv, fun i => ?_⟩
    by_cases e : i = 0
    · subst e
      have h9 : val5 (carryN (raised n)) ≤ 14 := by rw [hv, hmp]; omega
      rw [val5_eq] at h9
      omega
    · have := hd i
      rw [if_neg e] at this
      exact this
theorem byteOf_mod (n m i : Nat) (h : i < m) : byteOf (n % 256 ^ m) i = byteOf n i := by
  unfold byteOf
  rw [← pow_256]
  obtain ⟨d, rfl⟩ : ∃ d, m = i + (1 + d) := ⟨m - i - 1, by omega⟩
  rw [Nat.pow_add, Nat.mod_mul_right_div_self, Nat.pow_add, Nat.pow_one, Nat.mod_mul_right_mod]
theorem byteOf_div (n m i : Nat) : byteOf (n / 256 ^ m) i = byteOf n (m + i) := by
  unfold byteOf
  rw [← pow_256, ← pow_256, Nat.div_div_eq_div_mul, ← Nat.pow_add]
theorem littleL_halves (n a b : Nat) (ha : a = n % 18446744073709551616) (hb : b = n / 18446744073709551616 % 18446744073709551616) : littleL a 8 ++ littleL b 8 = littleL n 16 := by
  rw [show 18446744073709551616 = 256 ^ 8 by decide] at ha hb
  apply List.ext_getElem
  · simp [littleL]
  · intro i h1 h2
    rw [littleL_length] at h2
    rw [littleL_get n 16 i (by rw [littleL_length]; exact h2), List.getElem_append]
    split
    · rename_i h
      rw [littleL_length] at h
      rw [littleL_get, ha, byteOf_mod n 8 i h]
    · rename_i h
      rw [littleL_length] at h
      rw [littleL_get, hb, byteOf_mod _ 8 _ (by rw [littleL_length]; omega), littleL_length, byteOf_div, show 8 + (i - 8) = i by omega]
def keyLow (k : List UInt8) : Nat := numL ((k.drop 16).take 8)
def keyHigh (k : List UInt8) : Nat := numL ((k.drop 24).take 8)
theorem sN_words (k : List UInt8) (hk : k.length = 32) : sN k = keyLow k + 18446744073709551616 * keyHigh k := by
  have e : (k.drop 16).take 16 = (k.drop 16).take 8 ++ (k.drop 24).take 8 := by
    rw [show 16 = 8 + 8 from rfl, List.take_add, List.drop_drop]
  have h := numL_append ((k.drop 16).take 8) ((k.drop 24).take 8)
  rw [List.length_take, List.length_drop, hk, show min 8 (32 - 16) = 8 by decide, show 256 ^ 8 = 18446744073709551616 by decide] at h
  rw [sN, e, h]
  rfl
/-- the four sums of words -/
def fin0 (lo s0 : Nat) : Nat := (lo + s0) % 18446744073709551616
def over0 (lo s0 : Nat) : Nat := (lo + s0) / 18446744073709551616
def fin1 (lo hi s0 s1 : Nat) : Nat := (hi + s1 + over0 lo s0) % 18446744073709551616
def fin2 (lo s0 : Nat) : Nat := (fin0 lo s0 + 18446744073709551616 - 5) % 18446744073709551616
def under2 (lo s0 : Nat) : Nat := if fin0 lo s0 < 5 then 1 else 0
def fin3 (lo hi s0 s1 : Nat) : Nat := (fin1 lo hi s0 s1 + 18446744073709551616 - under2 lo s0) % 18446744073709551616
theorem fin_val (lo hi s0 s1 m : Nat) (_h1 : lo < 18446744073709551616) (_h2 : hi < 18446744073709551616) (_h3 : s0 < 18446744073709551616) (_h4 : s1 < 18446744073709551616) (h : lo + 18446744073709551616 * hi = (m + 5) % 340282366920938463463374607431768211456) :
    fin2 lo s0 + 18446744073709551616 * fin3 lo hi s0 s1 = (m + (s0 + 18446744073709551616 * s1)) % 340282366920938463463374607431768211456 := by
  have e0 : fin0 lo s0 = (lo + s0) % 18446744073709551616 := rfl
  have e1 : over0 lo s0 = (lo + s0) / 18446744073709551616 := rfl
  have e2 : fin1 lo hi s0 s1 = (hi + s1 + over0 lo s0) % 18446744073709551616 := rfl
  have e3 : fin2 lo s0 = (fin0 lo s0 + 18446744073709551616 - 5) % 18446744073709551616 := rfl
  have e5 : fin3 lo hi s0 s1 = (fin1 lo hi s0 s1 + 18446744073709551616 - under2 lo s0) % 18446744073709551616 := rfl
  have e4 : (fin0 lo s0 < 5 ∧ under2 lo s0 = 1) ∨ (5 ≤ fin0 lo s0 ∧ under2 lo s0 = 0) := by
    unfold under2
    by_cases h : fin0 lo s0 < 5
    · rw [if_pos h]; exact .inl ⟨h, rfl⟩
    · rw [if_neg h]; exact .inr ⟨by omega, rfl⟩
  generalize fin3 lo hi s0 s1 = A3 at *
  generalize fin2 lo s0 = A2 at *
  generalize fin1 lo hi s0 s1 = A1 at *
  generalize under2 lo s0 = U at *
  generalize over0 lo s0 = O at *
  generalize fin0 lo s0 = A0 at *
  omega
theorem sum_le (a : List Nat) (p : List UInt8) (ht : tight a) (hp : p.length ≤ 16) : ∀ i, dg (addS a (numP p) 5) i ≤ 268435455 := fun i => by
  rw [addS_dg _ _ ht.1 5 i (by omega)]
  have h1 := ht.2 i
  have h2 := numP_le p hp i
  split <;> (split at h1 <;> omega)
end Go.Proofs.YtlddafkikkaonaaDoor
namespace Go.Proofs.YtlddafkikkaonaaDoor
open Go.RowKit

/-- a limb as a cell -/
def lv (n : Nat) : Value := .int .u64 (n : Int)
theorem lv_one (l : List Nat) : ∀ v ∈ l.map lv, v.oneCell' = true := by
  intro v hv
  obtain ⟨b, _, rfl⟩ := List.mem_map.1 hv
  rfl
theorem Blk.lim {w : World} {g : Nat} {t : TypeId} {l : List Nat} (h : Blk w g t (l.map lv)) (i : Nat) (hi : i < l.length) : w.cell? ⟨g, i, none⟩ = some (.int .u64 (dg l i : Int)) := by
  rw [h.cell i]
  simp [lv, hi, dg, List.getD]
theorem Blk.setLim {w : World} {g : Nat} {t : TypeId} {l : List Nat} (h : Blk w g t (l.map lv)) (i x : Nat) : Blk (w.setCell ⟨g, i, none⟩ (.int .u64 (x : Int))) g t ((l.set i x).map lv) := by
  have h' := h.set_ i (.int .u64 (x : Int))
  rw [List.map_set]
  exact h'
def z5 : List Value := [.int .u64 0, .int .u64 0, .int .u64 0, .int .u64 0, .int .u64 0]
theorem z5_arr : z5.toArray = #[.int .u64 0, .int .u64 0, .int .u64 0, .int .u64 0, .int .u64 0] := rfl
theorem cells5 (l : List Nat) (h : l.length = 5) : (Tryd.prog.info? 140).map (·.size) = some (l.map lv).length := by
  rw [List.length_map, h]; kernel_rfl
theorem and_mask64 (s : Nat) (k : Nat) (hs : s < 18446744073709551616) (hk : k < 64) : bits BinOp.and IntKind.u64 (s : Int) ((2 ^ k - 1 : Nat) : Int) = ((s % 2 ^ k : Nat) : Int) := by
  have hk2 : 2 ^ k ≤ 2 ^ 64 := Nat.pow_le_pow_right (by omega) (by omega)
  rw [u64_and_nat _ _ hs (by omega), Nat.and_two_pow_sub_one_eq_mod]

set_option maxRecDepth 100000 in
set_option maxHeartbeats 2000000 in
theorem carry_any (l : List Nat) (hl : l.length = 5) (hd : ∀ i, dg l i ≤ 4611686018427387904) (w : World) :
    Calls Tryd.prog 110 #[.agg (l.map lv).toArray] w fun e w' => e = .returned (.agg ((carryN l).map lv).toArray) ∧ Below w.heap.size w w' := by
  obtain ⟨cl, hcl⟩ : ∃ cl, (l.map lv).toArray = cl := ⟨_, rfl⟩
  rw [hcl]
  have HB0 := Lib.hid (show Blk (w.alloc (.cells cl 140)) w.heap.size 140 (l.map lv) by rw [← hcl]; exact Blk.new w _ _)
  have HL := Lib.hid hl
  have HD := Lib.hid hd
  clear hd hl
  go_enter Tryd.func110, Tryd.ntmps110
  go_upto_region 1 with fail
  have h0 := HB0.out.alloc (.cells z5.toArray 140)
  have h1 : Blk ((w.alloc (.cells cl 140)).alloc (.cells z5.toArray 140)) (w.heap.size + 1) 140 z5 := Blk.new' _ (by simp) _ _
  have h3 : Below w.heap.size w ((w.alloc (.cells cl 140)).alloc (.cells z5.toArray 140)) := ((Below.refl _ _).alloc (Nat.le_refl _) _).alloc (by simp) _
  rw [z5_arr] at h0 h1 h3
  have hsz : ((w.alloc (.cells cl 140)).alloc (.cells #[.int .u64 0, .int .u64 0, .int .u64 0, .int .u64 0, .int .u64 0] 140)).heap.size = w.heap.size + 2 := by simp
  clear HB0
  have HC := Lib.hid hcl
  clear hcl
  generalize ((w.alloc (.cells cl 140)).alloc (.cells #[.int .u64 0, .int .u64 0, .int .u64 0, .int .u64 0, .int .u64 0] 140)) = w1 at h0 h1 h3 hsz ⊢
  have H1 := Lib.hid (And.intro h0 (And.intro h1 (And.intro h3 hsz)))
  clear h0 h1 h3 hsz
  go_upto_region 2 with (first | (refine wpList_load_blk rfl 140 (.tmp 1) rfl w.heap.size rfl 140 (l.map lv) H1.out.1 5 76 Tryd.underlying140 (cells5 l HL.out) ?_; rw [HC.out]) | (refine wpList_store_blk rfl 140 (.tmp 3) (.tmp 6) rfl w1.heap.size (l.map lv) rfl (by show Value.agg cl = _; rw [HC.out]) 140 z5 (Blk.new w1 140 z5) (cells5 l HL.out) (by rw [List.length_map, HL.out]; rfl) (lv_one _) ?_; intro w2 hb2 hg2))
  simp only [Act.put]
  have e2 := H1.out.2.2.2
  have hk1 := (H1.out.2.1.alloc (.cells z5.toArray 140)).grown hg2 (fun e => by injection e; omega)
  have hk3 : Below w.heap.size w w2 := below_blk (H1.out.2.2.1.alloc (by omega) (.cells z5.toArray 140)) hg2 (by omega)
  rw [e2] at hb2 ⊢
  have H2 := Lib.hid (And.intro hb2 (And.intro hk1 hk3))
  clear hb2 hk1 hk3 hg2 e2 H1
  go_wp2_with fail
  go_loopw [4, 7, 5] (fun u i _ wr => ∃ n : Nat, n ≤ 5 ∧ i = .int .i64 (n : Int) ∧ u = .int .u64 ((cst l n).2 : Int) ∧ Blk wr (w.heap.size + 2) 140 ((cst l n).1.map lv) ∧ Blk wr (w.heap.size + 1) 140 z5 ∧ Below w.heap.size w wr) (fun _ i _ _ => 5 - (intOf i).toNat)
  case atStart => exact ⟨0, by omega, rfl, rfl, H2.out.1, H2.out.2.1, H2.out.2.2⟩
  case round =>
    clear H2
    obtain ⟨n, hn, rfl, rfl, hblk, hz, hbel⟩ := hrel
    by_cases hln : n < 5
    · have d5 : decide ((n : Int) < 5) = true := by simp; omega
      have hlen : (cst l n).1.length = 5 := by rw [cst_length]; exact HL.out
      have fx := hblk.lim n (by omega)
      have zx := hblk.frozen n
      have hu := cst_carry l 68719477761 (fun i => by have := HD.out i; omega) n (by rw [HL.out]; omega)
      have hdn : dg (cst l n).1 n ≤ 4611686018427387904 := by rw [cst_above l n n (Nat.le_refl _) (by rw [HL.out]; omega)]; exact HD.out n
      have hnx : cst l (n + 1) = ((cst l n).1.set n ((dg (cst l n).1 n + (cst l n).2) % 67108864), (dg (cst l n).1 n + (cst l n).2) / 67108864) := rfl
      generalize (cst l n).2 = u at hu hnx ⊢
      generalize hdd : dg (cst l n).1 n = d at fx hdn hnx
      obtain ⟨s, hs⟩ : ∃ s, d + u = s := ⟨_, rfl⟩
      have hs1 : IntKind.u64.wrap ((d : Int) + (u : Int)) = (s : Int) := by rw [IntKind.wrap_u64]; omega
      obtain ⟨m, hmm⟩ : ∃ m, s % 67108864 = m := ⟨_, rfl⟩
      obtain ⟨q, hqq⟩ : ∃ q, s / 67108864 = q := ⟨_, rfl⟩
      have hm : bits BinOp.and IntKind.u64 (s : Int) 67108863 = (m : Int) := by rw [← hmm]; exact and_mask64 s 26 (by omega) (by omega)
      have hq : (s : Int) / 67108864 = (q : Int) := by omega
      have HNX := Lib.hid (show cst l (n + 1) = ((cst l n).1.set n m, q) by rw [hnx, hs, hmm, hqq])
      have g1 : (wr.setCell ⟨w.heap.size + 2, n, none⟩ (.int .u64 (s : Int))).cell? ⟨w.heap.size + 2, n, none⟩ = some (.int .u64 (s : Int)) := by
        have := (hblk.setLim n s).lim n (by rw [List.length_set]; omega)
        rwa [dg_set _ _ _ _ (by omega), if_pos rfl] at this
      have g2 := (hblk.setLim n s).frozen n
      have HB := Lib.hid (show Blk (wr.setCell ⟨w.heap.size + 2, n, none⟩ (.int .u64 (s : Int))) (w.heap.size + 2) 140 (((cst l n).1.set n s).map lv) ∧ Blk (wr.setCell ⟨w.heap.size + 2, n, none⟩ (.int .u64 (s : Int))) (w.heap.size + 1) 140 z5 ∧ Below w.heap.size w (wr.setCell ⟨w.heap.size + 2, n, none⟩ (.int .u64 (s : Int))) from ⟨hblk.setLim n s, hz.far (by simp) _, hbel.setCell (by dsimp only; omega) _⟩)
      clear hnx hblk hz hbel hdd hlen hs hmm hqq hu hdn
      go_upto_region 7 with fail
      (try simp only [hs1])
      generalize wr.setCell ⟨w.heap.size + 2, n, none⟩ (.int .u64 (s : Int)) = w3 at g1 g2 HB ⊢
      clear fx zx hs1
      go_wp2_with fail
      go_roundw
      case rel =>
        refine ⟨n + 1, by omega, by go_num, ?_, ?_, HB.out.2.1.far (by simp) _, HB.out.2.2.setCell (by dsimp only; omega) _⟩
        · rw [HNX.out]
        · rw [HNX.out]
          have := HB.out.1.setLim n m
          rwa [List.set_set] at this
      case measure => simp [intOf]; omega
    · obtain rfl : n = 5 := by omega
      have hlen : (cst l 5).1.length = 5 := by rw [cst_length]; exact HL.out
      have fx := hblk.lim 0 (by omega)
      have zx := hblk.frozen 0
      have hu := cst_carry l 68719477761 (fun i => by have := HD.out i; omega) 5 (by rw [HL.out]; omega)
      have hb := cst_below l 5 0 (by omega) (by rw [HL.out]; omega)
      obtain ⟨lz, hlz⟩ : ∃ lz, carryN l = lz := ⟨_, rfl⟩
      have hcn : carryN l = (cst l 5).1.set 0 (dg (cst l 5).1 0 + 5 * (cst l 5).2) := rfl
      have HLz := Lib.hid (show lz.length = 5 by rw [← hlz, carryN_length]; exact HL.out)
      generalize (cst l 5).2 = u at hu hcn ⊢
      generalize hdd : dg (cst l 5).1 0 = d at fx hb hcn
      obtain ⟨v, hv⟩ : ∃ v, 5 * u = v := ⟨_, rfl⟩
      obtain ⟨s, hs⟩ : ∃ s, d + v = s := ⟨_, rfl⟩
      have hv1 : IntKind.u64.wrap (5 * (u : Int)) = (v : Int) := by rw [IntKind.wrap_u64]; omega
      have hs1 : IntKind.u64.wrap ((d : Int) + (v : Int)) = (s : Int) := by rw [IntKind.wrap_u64]; omega
      rw [hv, hs, hlz] at hcn
      have g1 := hblk.setLim 0 s
      rw [← hcn] at g1
      have HB := Lib.hid (show Blk (wr.setCell ⟨w.heap.size + 2, 0, none⟩ (.int .u64 (s : Int))) (w.heap.size + 2) 140 (lz.map lv) ∧ Blk (wr.setCell ⟨w.heap.size + 2, 0, none⟩ (.int .u64 (s : Int))) (w.heap.size + 1) 140 z5 ∧ Below w.heap.size w (wr.setCell ⟨w.heap.size + 2, 0, none⟩ (.int .u64 (s : Int))) from ⟨g1, hz.far (by simp) _, hbel.setCell (by dsimp only; omega) _⟩)
      have HZ := Lib.hid hlz
      obtain ⟨cz, hcz⟩ : ∃ cz, (lz.map lv).toArray = cz := ⟨_, rfl⟩
      have HCZ := Lib.hid hcz
      clear hblk hz hbel hcz hlz hlen hu hb hv hs g1 hcn hdd
      rw [show ((5 : Nat) : Int) = 5 from rfl]
      go_upto_region 11 with fail
      (try simp only [hv1, hs1])
      generalize wr.setCell ⟨w.heap.size + 2, 0, none⟩ (.int .u64 (s : Int)) = w3 at HB ⊢
      clear fx zx hs1 hv1
      go_wp2_with (first | (refine wpList_load_blk rfl 140 (.tmp 3) rfl (w.heap.size + 2) rfl 140 (lz.map lv) HB.out.1 5 76 Tryd.underlying140 (cells5 lz HLz.out) ?_; rw [HCZ.out]) | (refine wpList_store_blk rfl 140 (.tmp 2) (.tmp 32) rfl (w.heap.size + 1) (lz.map lv) rfl (by show Value.agg cz = _; rw [HCZ.out]) 140 z5 HB.out.2.1 (cells5 lz HLz.out) (by rw [List.length_map, HLz.out]; rfl) (lv_one _) ?_; intro w9 hb9 hg9))
      exact bodyPost_ret (results_blk rfl _ _ (w.heap.size + 1) 140 (lz.map lv) 5 76 rfl hb9 Tryd.underlying140 (cells5 lz HLz.out)) rfl ⟨by rw [HZ.out], below_blk HB.out.2.2 hg9 (by omega)⟩
end Go.Proofs.YtlddafkikkaonaaDoor
