/-
  The contract of the reference's state: the constants, the words of the key and those of sixteen further bytes.
-/
import Derived.Test.YtafkedeelngnnaaChState
import Derived.Test.YtafkedeelngnnaaRefLit
import Derived.Test.YtafkedeelngnnaaChEnv
namespace Go.Proofs.Ytafkedeelngnnaa
open Go.RowKit

theorem fillW_get (l : List UInt32) (off : Nat) (f : Nat → UInt32) : ∀ j i : Nat, off + j ≤ l.length → (fillW l off f j)[i]? = if off ≤ i ∧ i < off + j then some (f (i - off)) else l[i]?
  | 0, i, _ => by rw [fillW, if_neg (by omega)]
  | j + 1, i, h => by
    rw [fillW, List.getElem?_set, fillW_length]
    by_cases e : off + j = i
    · rw [if_pos e, if_pos (by omega), if_pos (by omega)]
      congr 2
      omega
    · rw [if_neg e, fillW_get l off f j i (by omega)]
      by_cases h2 : off ≤ i ∧ i < off + j
      · rw [if_pos h2, if_pos (by omega)]
      · rw [if_neg h2, if_neg (by omega)]
theorem wordL_join (a b : List UInt8) (ha : a.length = 4) (i : Nat) : wordL (a ++ b) (i + 1) = wordL b i := by
  unfold wordL
  rw [List.drop_append, List.drop_of_length_le (by omega), ha, List.nil_append, show 4 * (i + 1) - 4 = 4 * i by omega]
theorem wordL_first (c : UInt32) (b : List UInt8) : wordL (littleL c.toNat 4 ++ b) 0 = c := by
  apply UInt32.toNat.inj
  rw [wordL_toNat, Nat.mul_zero, List.drop_zero, List.take_append_of_le_length (by rw [littleL_length]; omega), List.take_of_length_le (by rw [littleL_length]; omega), numL_little]
  exact Nat.mod_eq_of_lt c.toNat_lt
theorem state_rest (k : List UInt8) (c : UInt32) (n : List UInt8) : fillW (fillW baseW 4 (wordL k) 8) 12 (wordL (littleL c.toNat 4 ++ n)) 4 = stateW k c n := by
  have h0 := wordL_first c n
  have h1 := wordL_join (littleL c.toNat 4) n (littleL_length _ _) 0
  have h2 := wordL_join (littleL c.toNat 4) n (littleL_length _ _) 1
  have h3 := wordL_join (littleL c.toNat 4) n (littleL_length _ _) 2
  generalize littleL c.toNat 4 ++ n = r at h0 h1 h2 h3 ⊢
  simp only [Nat.zero_add] at h1 h2 h3
  simp [fillW, baseW, stateW, List.range_succ, h0, h1, h2, h3]

set_option maxRecDepth 100000 in
set_option maxHeartbeats 1000000 in
theorem refState_any (k : List UInt8) (hk : k.length = 32) (B : Nat) (db off cap : Nat) (rl : List UInt8) (hcap : 16 ≤ cap) (hcm : cap ≤ maxLen) (w : World) (hB : B ≤ w.heap.size) (hr : Rd w B (some ⟨db, off, none⟩) 16 rl) :
    Calls Try.prog 29 #[.agg (k.map u8v).toArray, .slice (some ⟨db, off, none⟩) 16 cap] w fun e w' => e = .returned (.agg ((fillW (fillW baseW 4 (wordL k) 8) 12 (wordL rl) 4).map u32v).toArray) ∧ Below w.heap.size w w' := by
  obtain ⟨ck, hck⟩ : ∃ ck, (k.map u8v).toArray = ck := ⟨_, rfl⟩
  rw [hck]
  obtain ⟨i0, hi, hz0, hz1, hz2⟩ := info_parts Try.info5
  have HK0 := Lib.hid (show Blk (w.alloc (.cells ck 23)) w.heap.size 23 (k.map u8v) by rw [← hck]; exact Blk.new w _ _)
  have HK := Lib.hid hk
  have HBM := Lib.hid base_map
  have HR := Lib.hid hr
  clear hk hck hr
  unfold maxLen at hcm
  go_enter Try.func29, Try.ntmps29
  go_upto_region 1 with fail
  have hk1 := HK0.out.alloc (.cells z16.toArray 53)
  have hzz1 : Blk ((w.alloc (.cells ck 23)).alloc (.cells z16.toArray 53)) (w.heap.size + 1) 53 z16 := Blk.new' _ (by simp) _ _
  have hbel1 : Below w.heap.size w ((w.alloc (.cells ck 23)).alloc (.cells z16.toArray 53)) := ((Below.refl _ _).alloc (Nat.le_refl _) _).alloc (by simp) _
  have hs1 : ((w.alloc (.cells ck 23)).alloc (.cells z16.toArray 53)).heap.size = w.heap.size + 2 := by simp
  clear HK0
  rw [z16_arr] at hk1 hzz1 hbel1 hs1
  generalize ((w.alloc (.cells ck 23)).alloc (.cells #[.int .u32 0, .int .u32 0, .int .u32 0, .int .u32 0, .int .u32 0, .int .u32 0, .int .u32 0, .int .u32 0, .int .u32 0, .int .u32 0, .int .u32 0, .int .u32 0, .int .u32 0, .int .u32 0, .int .u32 0, .int .u32 0] 53)) = W1 at hk1 hzz1 hbel1 hs1 ⊢
  go_upto_region 2 with (refine wpList_store_blk rfl 53 (.tmp 5) (.tmp 8) rfl (w.heap.size + 2) (baseW.map u32v) rfl (by rw [HBM.out]; rfl) 53 z16 (Blk.new' W1 hs1.symm 53 z16) (cells16 baseW rfl) rfl (u32v_one _) ?_; intro w2 hb2 hg2)
  simp only [Act.put]
  have B2 := Lib.hid (show Blk w2 (w.heap.size + 2) 53 (baseW.map u32v) ∧ Blk w2 w.heap.size 23 (k.map u8v) ∧ Blk w2 (w.heap.size + 1) 53 z16 ∧ Below w.heap.size w w2 from
    ⟨hb2, (hk1.alloc _).grown hg2 (by simp), (hzz1.alloc _).grown hg2 (by simp), Below.grown (hbel1.alloc (by omega) _) hg2 (by simp; omega) (by intro k hk; injection hk with hk; omega)⟩)
  clear hs1 hk1 hzz1 hbel1 hg2 hb2 HBM
  go_wp2_with fail
  go_loopw [6] (fun i wr => ∃ j : Nat, j ≤ 8 ∧ i = .int .i64 (j : Int) ∧ Blk wr (w.heap.size + 2) 53 ((fillW baseW 4 (wordL k) j).map u32v) ∧ Blk wr w.heap.size 23 (k.map u8v) ∧ Blk wr (w.heap.size + 1) 53 z16 ∧ Below w.heap.size w wr) (fun i _ => 8 - (intOf i).toNat)
  case atStart => exact ⟨0, by omega, rfl, B2.out.1, B2.out.2.1, B2.out.2.2.1, B2.out.2.2.2⟩
  case round =>
    clear B2
    obtain ⟨j, hj, rfl, hblk, hk, hz, hbel⟩ := hrel
    by_cases hlt : j < 8
    · have d8 : decide ((j : Int) < 8) = true := by simp; omega
      have rd := hk.rd (4 * j) 4 (by have := HK.out; omega)
      have RL := Lib.hid (readRefLittle_any _ _ 4 (32 - 4 * j) _ (by omega) wr rd)
      have hlen : (fillW baseW 4 (wordL k) j).length = 16 := by rw [fillW_length]; rfl
      have fx := hblk.word (4 + j) (by omega)
      have zx := hblk.frozen (4 + j)
      have WW := Lib.hid (word_wrap k j)
      have HN := Lib.hid (And.intro (hblk.setWord (4 + j) (wordL k j)) (And.intro (hk.far (p := ⟨w.heap.size + 2, 4 + j, none⟩) (by simp) (.int .u32 ((wordL k j).toNat : Int))) (And.intro (hz.far (p := ⟨w.heap.size + 2, 4 + j, none⟩) (by simp) (.int .u32 ((wordL k j).toNat : Int))) (hbel.setCell (p := ⟨w.heap.size + 2, 4 + j, none⟩) (by dsimp only; omega) (.int .u32 ((wordL k j).toNat : Int))))))
      clear hblk hk hz hbel rd hlen
      have hsl : ∀ w' : World, (Instr.sliceAt 23 (.pointer (some ⟨w.heap.size, 0, none⟩)) (some (.int .i64 (4 * (j : Int)))) (some (.int .i64 (4 * (j : Int) + 4))) none).run Try.prog w' = .ok (.slice (some ⟨w.heap.size, 4 * j, none⟩) 4 (32 - 4 * j)) w' := fun w' => by
        have := run_slice_array (P := Try.prog) w' 23 5 32 Try.underlying23 i0 hi hz1 w.heap.size .i64 .i64 (4 * j) (4 * j + 4) (4 * (j : Int)) (4 * (j : Int) + 4) (by omega) (by omega) (by omega) (by omega) (by omega)
        rwa [show 4 * j + 4 - 4 * j = 4 by omega] at this
      go_wp2_with fail
      refine RL.out.mono ?_
      rintro e w1 ⟨rfl, rfl⟩
      clear RL
      obtain ⟨M, hM⟩ : ∃ M, numL (((k.drop (4 * j)).take 4).take 8) = M := ⟨_, rfl⟩
      have WN := WW.out
      rw [hM] at WN ⊢
      clear hM WW
      go_wp2
      go_roundw
      case rel =>
        exact ⟨j + 1, by omega, by go_num, HN.out.1, HN.out.2.1, HN.out.2.2.1, HN.out.2.2.2⟩
      case measure => simp [intOf]; omega
    · obtain rfl : j = 8 := by omega
      have B3 := Lib.hid (And.intro hblk (And.intro hz hbel))
      clear hblk hk hz hbel
      rw [show ((8 : Nat) : Int) = 8 from rfl]
      go_wp2_with fail
      go_loopw [7] (fun i wr => ∃ j : Nat, j ≤ 4 ∧ i = .int .i64 (j : Int) ∧ Blk wr (w.heap.size + 2) 53 ((fillW (fillW baseW 4 (wordL k) 8) 12 (wordL rl) j).map u32v) ∧ Blk wr (w.heap.size + 1) 53 z16 ∧ Below w.heap.size w wr) (fun i _ => 4 - (intOf i).toNat)
      case atStart => exact ⟨0, by omega, rfl, B3.out.1, B3.out.2.1, B3.out.2.2⟩
      case round =>
        clear B3
        obtain ⟨j, hj, rfl, hblk, hz, hbel⟩ := hrel
        by_cases hlt : j < 4
        · have d4 : decide ((j : Int) < 4) = true := by simp; omega
          have rd := (((HR.out.below (hbel.mono hB)).drop (4 * j) db off rfl (by omega)).take (m := 4) (by omega))
          have RL := Lib.hid (readRefLittle_any _ _ 4 (cap - 4 * j) _ (by omega) wr rd)
          have hlen : (fillW (fillW baseW 4 (wordL k) 8) 12 (wordL rl) j).length = 16 := by rw [fillW_length, fillW_length]; rfl
          have fx := hblk.word (12 + j) (by omega)
          have zx := hblk.frozen (12 + j)
          have WW := Lib.hid (word_wrap rl j)
          have HN := Lib.hid (And.intro (hblk.setWord (12 + j) (wordL rl j)) (And.intro (hz.far (p := ⟨w.heap.size + 2, 12 + j, none⟩) (by simp) (.int .u32 ((wordL rl j).toNat : Int))) (hbel.setCell (p := ⟨w.heap.size + 2, 12 + j, none⟩) (by dsimp only; omega) (.int .u32 ((wordL rl j).toNat : Int)))))
          clear hblk hz hbel rd hlen
          have b1 : 4 * (j : Int) + 4 ≤ (cap : Int) := by omega
          have b2 : ¬ cap = 4 * j := by omega
          go_wp2_with fail
          rw [show 4 * j + 4 - 4 * j = 4 by omega]
          refine RL.out.mono ?_
          rintro e w1 ⟨rfl, rfl⟩
          clear RL
          obtain ⟨M, hM⟩ : ∃ M, numL (((rl.drop (4 * j)).take 4).take 8) = M := ⟨_, rfl⟩
          have WN := WW.out
          rw [hM] at WN ⊢
          clear hM WW
          go_wp2
          go_roundw
          case rel =>
            exact ⟨j + 1, by omega, by go_num, HN.out.1, HN.out.2.1, HN.out.2.2⟩
          case measure => simp [intOf]; omega
        · obtain rfl : j = 4 := by omega
          have HB := Lib.hid (And.intro hblk (And.intro hz hbel))
          clear hblk hz hbel
          have HLz := Lib.hid (show (fillW (fillW baseW 4 (wordL k) 8) 12 (wordL rl) 4).length = 16 by rw [fillW_length, fillW_length]; rfl)
          obtain ⟨lz, hlz⟩ : ∃ lz, fillW (fillW baseW 4 (wordL k) 8) 12 (wordL rl) 4 = lz := ⟨_, rfl⟩
          rw [hlz] at HB HLz
          have HSZ := Lib.hid hlz
          obtain ⟨cz, hcz⟩ : ∃ cz, (lz.map u32v).toArray = cz := ⟨_, rfl⟩
          have HCZ := Lib.hid hcz
          clear hcz hlz
          have d4 : decide (((4 : Nat) : Int) < 4) = false := by decide
          go_wp2_with (first | (refine wpList_load_blk rfl 53 (.tmp 5) rfl (w.heap.size + 2) rfl 53 (lz.map u32v) HB.out.1 16 41 Try.underlying53 (cells16 lz HLz.out) ?_; rw [HCZ.out]) | (refine wpList_store_blk rfl 53 (.tmp 4) (.tmp 40) rfl (w.heap.size + 1) (lz.map u32v) rfl (by show Value.agg cz = _; rw [HCZ.out]) 53 z16 HB.out.2.1 (cells16 lz HLz.out) (by rw [List.length_map, HLz.out]; rfl) (u32v_one _) ?_; intro w9 hb9 hg9))
          exact bodyPost_ret (results_blk rfl _ _ (w.heap.size + 1) 53 (lz.map u32v) 16 41 rfl hb9 Try.underlying53 (cells16 lz HLz.out)) rfl ⟨by rw [HSZ.out], below_blk HB.out.2.2 hg9 (by omega)⟩
end Go.Proofs.Ytafkedeelngnnaa
