/-
  The contract of chacha.readWords: words out of bytes, four for each, the least significant one first. The contract of chacha.initialState: the constants, the words of the key, the counter, the words of the nonce. No statement is proved here.
-/
import Derived.Test.YtkbefhmgcodpaaaLit
import Derived.Test.YtkbefhmgcodpaaaChCore
namespace Go.Proofs.Ytkbefhmgcodpaaa
open Go.RowKit

theorem readWords_any (G off n c kb m : Nat) (t tk : TypeId) (l : List UInt32) (bs : List UInt8) (hl : l.length = 16) (hoff : off + n ≤ 16) (hc : n ≤ c) (hb : bs.length = m) (hm : 4 * n ≤ m) (hm2 : m ≤ 1000) (hkG : G ≠ kb) (w : World) (hG : Blk w G t (l.map u32v)) (hK : Blk w kb tk (bs.map u8v)) :
    Calls Try.prog 58 #[.slice (some ⟨G, off, none⟩) n c, .slice (some ⟨kb, 0, none⟩) m m] w fun e w' => e = .returned (.tuple #[]) ∧ Blk w' G t ((fillW l off (wordL bs) n).map u32v) ∧ w.grownBy w' (some G) := by
  have HG := Lib.hid hG
  have HK := Lib.hid hK
  have HL := Lib.hid hl
  have HB := Lib.hid hb
  have HKG := Lib.hid hkG
  clear hG hK hl hb hkG
  go_enter Try.func58, Try.ntmps58
  go_wp2
  go_loopw [7, 4] (fun i _ wr => ∃ j : Nat, j ≤ n ∧ i = .int .i64 j ∧ Blk wr G t ((fillW l off (wordL bs) j).map u32v) ∧ Blk wr kb tk (bs.map u8v) ∧ w.grownBy wr (some G)) (fun i _ _ => n - (intOf i).toNat)
  case atStart => exact ⟨0, by omega, rfl, HG.out, HK.out, World.grownBy.refl _ _⟩
  case round =>
    obtain ⟨j, hj, rfl, hblk, hk, hg⟩ := hrel
    by_cases hlt : j < n
    · have rd := hk.rd (4 * j) 4 (by have := HB.out; omega)
      have RL := Lib.hid (readLittle_any _ _ 4 (m - 4 * j) _ (by omega) wr rd)
      have hlen : (fillW l off (wordL bs) j).length = 16 := by rw [fillW_length]; exact HL.out
      have fx := hblk.word (off + j) (by omega)
      have zx := hblk.frozen (off + j)
      have WW := Lib.hid (word_wrap bs j)
      have HN := Lib.hid (And.intro (hblk.setWord (off + j) (wordL bs j)) (And.intro (hk.far (p := ⟨G, off + j, none⟩) HKG.out.symm (.int .u32 ((wordL bs j).toNat : Int))) (grown_set hg (off + j) (.int .u32 ((wordL bs j).toNat : Int)))))
      clear hblk hk hg rd hlen
      go_wp2_with fail
      rw [show (j + 1) * 4 - j * 4 = 4 by omega, Nat.mul_comm j 4]
      refine RL.out.mono ?_
      rintro e w1 ⟨rfl, rfl⟩
      clear RL
      obtain ⟨N, hN⟩ : ∃ N, numL (((bs.drop (4 * j)).take 4).take 8) = N := ⟨_, rfl⟩
      have WN := WW.out
      rw [hN] at WN ⊢
      clear hN WW
      go_wp2
      go_roundw
      case rel =>
        exact ⟨j + 1, by omega, by go_num, HN.out.1, HN.out.2.1, HN.out.2.2⟩
      case measure => simp [intOf]; omega
    · obtain rfl : j = n := by omega
      have HN := Lib.hid (And.intro hblk hg)
      clear hblk hg hk
      go_wp2
      refine bodyPost_end (results_none rfl _ _ _) rfl ⟨rfl, HN.out.1, HN.out.2⟩

def baseW : List UInt32 := [0x61707865, 0x3320646e, 0x79622d32, 0x6b206574, 0, 0, 0, 0, 0, 0, 0, 0, 0, 0, 0, 0]
theorem base_map : (baseW.map u32v).toArray = #[.int .u32 1634760805, .int .u32 857760878, .int .u32 2036477234, .int .u32 1797285236, .int .u32 0, .int .u32 0, .int .u32 0, .int .u32 0, .int .u32 0, .int .u32 0, .int .u32 0, .int .u32 0, .int .u32 0, .int .u32 0, .int .u32 0, .int .u32 0] := by
  simp [baseW, u32v]
theorem state_fill (k : List UInt8) (c : UInt32) (n : List UInt8) : fillW ((fillW baseW 4 (wordL k) 8).set 12 c) 13 (wordL n) 3 = stateW k c n := by
  simp [fillW, baseW, stateW, List.range_succ]
theorem undrew {w w' : World} {row : Option Nat} (h : w.drew.grownBy w' row) : w.grownBy w' row := ⟨h.os, h.tape, h.output, h.size, h.block⟩
theorem z16_arr : z16.toArray = #[.int .u32 0, .int .u32 0, .int .u32 0, .int .u32 0, .int .u32 0, .int .u32 0, .int .u32 0, .int .u32 0, .int .u32 0, .int .u32 0, .int .u32 0, .int .u32 0, .int .u32 0, .int .u32 0, .int .u32 0, .int .u32 0] := rfl
theorem cells16 (l : List UInt32) (h : l.length = 16) : (Try.prog.info? 44).map (·.size) = some (l.map u32v).length := by
  rw [List.length_map, h]; kernel_rfl

set_option maxRecDepth 100000 in
theorem state_any (k n : List UInt8) (hk : k.length = 32) (hn : n.length = 12) (c : UInt32) (w : World) :
    Calls Try.prog 49 #[.agg (k.map u8v).toArray, .int .u32 (c.toNat : Int), .agg (n.map u8v).toArray] w fun e w' => e = .returned (.agg ((stateW k c n).map u32v).toArray) ∧ Below w.heap.size w w' := by
  obtain ⟨ck, hck⟩ : ∃ ck, (k.map u8v).toArray = ck := ⟨_, rfl⟩
  obtain ⟨cn, hcn⟩ : ∃ cn, (n.map u8v).toArray = cn := ⟨_, rfl⟩
  rw [hck, hcn]
  have HK0 := Lib.hid (show Blk (w.alloc (.cells ck 23)) w.heap.size 23 (k.map u8v) by rw [← hck]; exact Blk.new w _ _)
  have HN0 := Lib.hid (show Blk ((w.alloc (.cells ck 23)).alloc (.cells cn 39)) (w.heap.size + 1) 39 (n.map u8v) by rw [← hcn]; exact Blk.new' _ (by simp) _ _)
  have HK := Lib.hid hk
  have HN := Lib.hid hn
  have HBM := Lib.hid base_map
  clear hk hn hck hcn
  go_enter Try.func49, Try.ntmps49
  go_upto_region 1 with fail
  have hk1 := (HK0.out.alloc (.cells cn 39)).alloc (.cells z16.toArray 44)
  have hn1 := HN0.out.alloc (.cells z16.toArray 44)
  have hz1 : Blk (((w.alloc (.cells ck 23)).alloc (.cells cn 39)).alloc (.cells z16.toArray 44)) (w.heap.size + 2) 44 z16 := Blk.new' _ (by simp) _ _
  have hbel1 : Below w.heap.size w (((w.alloc (.cells ck 23)).alloc (.cells cn 39)).alloc (.cells z16.toArray 44)) := (((Below.refl _ _).alloc (Nat.le_refl _) _).alloc (by simp) _).alloc (by simp; omega) _
  have hs1 : (((w.alloc (.cells ck 23)).alloc (.cells cn 39)).alloc (.cells z16.toArray 44)).heap.size = w.heap.size + 3 := by simp
  clear HK0 HN0
  rw [z16_arr] at hk1 hn1 hz1 hbel1 hs1
  generalize (((w.alloc (.cells ck 23)).alloc (.cells cn 39)).alloc (.cells #[.int .u32 0, .int .u32 0, .int .u32 0, .int .u32 0, .int .u32 0, .int .u32 0, .int .u32 0, .int .u32 0, .int .u32 0, .int .u32 0, .int .u32 0, .int .u32 0, .int .u32 0, .int .u32 0, .int .u32 0, .int .u32 0] 44)) = W1 at hk1 hn1 hz1 hbel1 hs1 ⊢
  rw [show w.heap.size + 1 + 1 = w.heap.size + 2 from rfl]
  go_upto_region 2 with (refine wpList_store_blk rfl 44 (.tmp 7) (.tmp 8) rfl (w.heap.size + 3) (baseW.map u32v) rfl (by rw [HBM.out]; rfl) 44 z16 (Blk.new' W1 hs1.symm 44 z16) (cells16 baseW rfl) rfl (u32v_one _) ?_; intro w2 hb2 hg2)
  have B2 := Lib.hid (show Blk w2 (w.heap.size + 3) 44 (baseW.map u32v) ∧ Blk w2 w.heap.size 23 (k.map u8v) ∧ Blk w2 (w.heap.size + 1) 39 (n.map u8v) ∧ Blk w2 (w.heap.size + 2) 44 z16 ∧ Below w.heap.size w w2 by
    refine ⟨hb2, (hk1.alloc _).grown hg2 (by simp), (hn1.alloc _).grown hg2 (by simp), (hz1.alloc _).grown hg2 (by simp), Below.grown (hbel1.alloc (by omega) _) hg2 (by simp; omega) (by intro k hk; injection hk with hk; omega)⟩)
  clear hs1 hk1 hn1 hz1 hbel1 hg2 hb2
  simp only [Act.put]
  go_cut [] (fun wx => Blk wx (w.heap.size + 3) 44 ((fillW baseW 4 (wordL k) 8).map u32v) ∧ Blk wx w.heap.size 23 (k.map u8v) ∧ Blk wx (w.heap.size + 1) 39 (n.map u8v) ∧ Blk wx (w.heap.size + 2) 44 z16 ∧ Below w.heap.size w wx)
  case first =>
    have RW := Lib.hid (fun w' : World => fun h1 h2 => readWords_any (w.heap.size + 3) 4 8 12 w.heap.size 32 44 23 baseW k rfl (by omega) (by omega) HK.out (by omega) (by omega) (by omega) w' h1 h2)
    have RR := Lib.hid (fun (w4 : World) (hb : Blk w4 (w.heap.size + 3) 44 ((fillW baseW 4 (wordL k) 8).map u32v)) (hg : w2.grownBy w4 (some (w.heap.size + 3))) => show Blk w4 (w.heap.size + 3) 44 ((fillW baseW 4 (wordL k) 8).map u32v) ∧ Blk w4 w.heap.size 23 (k.map u8v) ∧ Blk w4 (w.heap.size + 1) 39 (n.map u8v) ∧ Blk w4 (w.heap.size + 2) 44 z16 ∧ Below w.heap.size w w4 from ⟨hb, B2.out.2.1.grown hg (by simp), B2.out.2.2.1.grown hg (by simp), B2.out.2.2.2.1.grown hg (by simp), Below.grown B2.out.2.2.2.2 hg B2.out.2.2.2.2.size (by intro k hk; injection hk with hk; omega)⟩)
    go_region_with ((go_at_call 58; refine (RW.out w2.drew B2.out.1.drew B2.out.2.1.drew).mono ?_; rintro e w4 ⟨rfl, hb4, hg4⟩))
    all_goals (go_wp2; go_meet; exact RR.out _ hb4 (undrew hg4))
  case rest =>
    clear B2 HBM
    have B3 := Lib.hid hcut
    clear hcut
    have h16 : (fillW baseW 4 (wordL k) 8).length = 16 := by rw [fillW_length]; rfl
    have fx := B3.out.1.word 12 (by omega)
    have zx := B3.out.1.frozen 12
    have B4 := Lib.hid (show Blk (wc.setCell ⟨w.heap.size + 3, 12, none⟩ (.int .u32 (c.toNat : Int))) (w.heap.size + 3) 44 (((fillW baseW 4 (wordL k) 8).set 12 c).map u32v) ∧ Blk (wc.setCell ⟨w.heap.size + 3, 12, none⟩ (.int .u32 (c.toNat : Int))) (w.heap.size + 1) 39 (n.map u8v) ∧ Blk (wc.setCell ⟨w.heap.size + 3, 12, none⟩ (.int .u32 (c.toNat : Int))) (w.heap.size + 2) 44 z16 ∧ Below w.heap.size w (wc.setCell ⟨w.heap.size + 3, 12, none⟩ (.int .u32 (c.toNat : Int))) from ⟨B3.out.1.setWord 12 c, B3.out.2.2.1.far (by simp) _, B3.out.2.2.2.1.far (by simp) _, B3.out.2.2.2.2.setCell (by dsimp only; omega) _⟩)
    have H16 := Lib.hid (show ((fillW baseW 4 (wordL k) 8).set 12 c).length = 16 by rw [List.length_set]; exact h16)
    clear h16
    go_upto_region 4 with fail
    clear fx zx B3
    generalize wc.setCell ⟨w.heap.size + 3, 12, none⟩ (.int .u32 (c.toNat : Int)) = w5 at B4 ⊢
    go_cut [] (fun wx => Blk wx (w.heap.size + 3) 44 ((fillW ((fillW baseW 4 (wordL k) 8).set 12 c) 13 (wordL n) 3).map u32v) ∧ Blk wx (w.heap.size + 2) 44 z16 ∧ Below w.heap.size w wx)
    case first =>
      have RW := Lib.hid (fun w' : World => fun h1 h2 => readWords_any (w.heap.size + 3) 13 3 3 (w.heap.size + 1) 12 44 39 ((fillW baseW 4 (wordL k) 8).set 12 c) n H16.out (by omega) (by omega) HN.out (by omega) (by omega) (by omega) w' h1 h2)
      have RR := Lib.hid (fun (w4 : World) (hb : Blk w4 (w.heap.size + 3) 44 ((fillW ((fillW baseW 4 (wordL k) 8).set 12 c) 13 (wordL n) 3).map u32v)) (hg : w5.grownBy w4 (some (w.heap.size + 3))) => show Blk w4 (w.heap.size + 3) 44 ((fillW ((fillW baseW 4 (wordL k) 8).set 12 c) 13 (wordL n) 3).map u32v) ∧ Blk w4 (w.heap.size + 2) 44 z16 ∧ Below w.heap.size w w4 from ⟨hb, B4.out.2.2.1.grown hg (by simp), Below.grown B4.out.2.2.2 hg B4.out.2.2.2.size (by intro k hk; injection hk with hk; omega)⟩)
      go_region_with ((go_at_call 58; refine (RW.out w5.drew B4.out.1.drew B4.out.2.1.drew).mono ?_; rintro e w4 ⟨rfl, hb4, hg4⟩))
      all_goals (go_wp2; go_meet; exact RR.out _ hb4 (undrew hg4))
    case rest =>
      rw [state_fill] at hcut
      have HB := Lib.hid hcut
      clear hcut B4
      have HLz := Lib.hid (stateW_length k c n)
      obtain ⟨lz, hlz⟩ : ∃ lz, stateW k c n = lz := ⟨_, rfl⟩
      rw [hlz] at HB HLz
      have HSZ := Lib.hid hlz
      obtain ⟨cz, hcz⟩ : ∃ cz, (lz.map u32v).toArray = cz := ⟨_, rfl⟩
      have HCZ := Lib.hid hcz
      clear hcz hlz
      go_wp2_with (first | (refine wpList_load_blk rfl 44 (.tmp 7) rfl (w.heap.size + 3) rfl 44 (lz.map u32v) HB.out.1 16 43 Try.underlying44 (cells16 lz HLz.out) ?_; rw [HCZ.out]) | (refine wpList_store_blk rfl 44 (.tmp 6) (.tmp 17) rfl (w.heap.size + 2) (lz.map u32v) rfl (by show Value.agg cz = _; rw [HCZ.out]) 44 z16 HB.out.2.1 (cells16 lz HLz.out) (by rw [List.length_map, HLz.out]; rfl) (u32v_one _) ?_; intro w9 hb9 hg9))
      exact bodyPost_ret (results_blk rfl _ _ (w.heap.size + 2) 44 (lz.map u32v) 16 43 rfl hb9 Try.underlying44 (cells16 lz HLz.out)) rfl ⟨by rw [HSZ.out], below_blk HB.out.2.2 hg9 (by omega)⟩
end Go.Proofs.Ytkbefhmgcodpaaa
