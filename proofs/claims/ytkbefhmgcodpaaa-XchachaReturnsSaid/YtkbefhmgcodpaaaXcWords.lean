/-
  The contracts of xchacha.readWords, writeWords and stateOf: words out of bytes, bytes out of words, and the words that are mixed. No statement is proved here.
-/
import Derived.Test.YtkbefhmgcodpaaaXcMath
import Derived.Test.YtkbefhmgcodpaaaEnt
import Derived.Test.YtkbefhmgcodpaaaLittle
import Derived.Test.YtkbefhmgcodpaaaRegion
import Derived.Test.YtkbefhmgcodpaaaSliceOf
namespace Go.Proofs.Ytkbefhmgcodpaaa
open Go.RowKit

theorem xcReadWords_any (G off n c kb m : Nat) (t tk : TypeId) (l : List UInt32) (bs : List UInt8) (hl : l.length = 16) (hoff : off + n ≤ 16) (hc : n ≤ c) (hb : bs.length = m) (hm : 4 * n ≤ m) (hm2 : m ≤ 1000) (hkG : G ≠ kb) (w : World) (hG : Blk w G t (l.map u32v)) (hK : Blk w kb tk (bs.map u8v)) :
    Calls Try.prog 28 #[.slice (some ⟨G, off, none⟩) n c, .slice (some ⟨kb, 0, none⟩) m m] w fun e w' => e = .returned (.tuple #[]) ∧ Blk w' G t ((fillW l off (wordL bs) n).map u32v) ∧ w.grownBy w' (some G) := by
  have HG := Lib.hid hG
  have HK := Lib.hid hK
  have HL := Lib.hid hl
  have HB := Lib.hid hb
  have HKG := Lib.hid hkG
  clear hG hK hl hb hkG
  go_enter Try.func28, Try.ntmps28
  go_wp2
  go_loopw [7, 4] (fun i _ wr => ∃ j : Nat, j ≤ n ∧ i = .int .i64 j ∧ Blk wr G t ((fillW l off (wordL bs) j).map u32v) ∧ Blk wr kb tk (bs.map u8v) ∧ w.grownBy wr (some G)) (fun i _ _ => n - (intOf i).toNat)
  case atStart => exact ⟨0, by omega, rfl, HG.out, HK.out, World.grownBy.refl _ _⟩
  case round =>
    obtain ⟨j, hj, rfl, hblk, hk, hg⟩ := hrel
    by_cases hlt : j < n
    · have rd := hk.rd (4 * j) 4 (by have := HB.out; omega)
      have RL := Lib.hid (readLittle_any _ _ 4 (m - 4 * j) _ (by omega) wr rd)
      have hlen : (fillW l off (wordL bs) j).length = 16 := by rw [fillW_length]; exact HL.out
      have fx := hblk.word (off + j) (by omega)
      have zx := hblk.frozen (off + j)
      have WW := Lib.hid (word_wrap bs j)
      have HN := Lib.hid (And.intro (hblk.setWord (off + j) (wordL bs j)) (And.intro (hk.far (p := ⟨G, off + j, none⟩) HKG.out.symm (.int .u32 ((wordL bs j).toNat : Int))) (grown_set hg (off + j) (.int .u32 ((wordL bs j).toNat : Int)))))
      clear hblk hk hg rd hlen
      go_wp2_with fail
      rw [show (j + 1) * 4 - j * 4 = 4 by omega, Nat.mul_comm j 4]
      refine RL.out.mono ?_
      rintro e w1 ⟨rfl, rfl⟩
      clear RL
      obtain ⟨N, hN⟩ : ∃ N, numL (((bs.drop (4 * j)).take 4).take 8) = N := ⟨_, rfl⟩
      have WN := WW.out
      rw [hN] at WN ⊢
      clear hN WW
      go_wp2
      go_roundw
      case rel =>
        exact ⟨j + 1, by omega, by go_num, HN.out.1, HN.out.2.1, HN.out.2.2⟩
      case measure => simp [intOf]; omega
    · obtain rfl : j = n := by omega
      have HN := Lib.hid (And.intro hblk hg)
      clear hblk hg hk
      go_wp2
      refine bodyPost_end (results_none rfl _ _ _) rfl ⟨rfl, HN.out.1, HN.out.2⟩

theorem grown_trans' {a w w' : World} {row : Option Nat} (h : a.grownBy w row) (k : w.grownBy w' row) : a.grownBy w' row :=
  ⟨k.os.trans h.os, k.tape.trans h.tape, k.output.trans h.output, Nat.le_trans h.size k.size, fun i hi hr => (k.block i (Nat.lt_of_lt_of_le hi h.size) hr).trans (h.block i hi hr)⟩
theorem grown_below {a w w' : World} {row : Option Nat} (h : a.grownBy w row) (hb : Below w.heap.size w w') : a.grownBy w' row :=
  grown_trans' h ⟨hb.os, hb.tape, hb.output, hb.size, fun i hi _ => hb.block i hi⟩
theorem grown_drew {a w : World} {row : Option Nat} (h : a.grownBy w row) : a.grownBy w.drew row := ⟨h.os, h.tape, h.output, h.size, h.block⟩
/-- l with the bytes of words laid from off on -/
def writeW (l : List UInt8) (off : Nat) (f : Nat → UInt32) : Nat → List UInt8
  | 0 => l
  | j + 1 => putL (writeW l off f j) (off + 4 * j) (littleL (f j).toNat 4)
theorem writeW_length (l : List UInt8) (off : Nat) (f : Nat → UInt32) : ∀ j, off + 4 * j ≤ l.length → (writeW l off f j).length = l.length
  | 0, _ => rfl
  | j + 1, h => by
    have := writeW_length l off f j (by omega)
    rw [writeW, putL_length _ _ _ (by rw [littleL_length]; omega), this]

set_option maxRecDepth 100000 in
theorem xcWriteWords_any (G off c H o2 n c2 M : Nat) (t th : TypeId) (l : List UInt8) (ws : List UInt32) (hl : l.length = M) (hM : off + 4 * n ≤ M) (_hM2 : M ≤ 1000) (hc : 4 * n ≤ c) (hcm : c ≤ 1000) (hw : o2 + n ≤ ws.length) (hc2 : n ≤ c2) (hHG : H ≠ G) (w : World) (hG : Blk w G t (l.map u8v)) (hH : Blk w H th (ws.map u32v)) :
    Calls Try.prog 17 #[.slice (some ⟨G, off, none⟩) (4 * n : Nat) c, .slice (some ⟨H, o2, none⟩) n c2] w fun e w' => e = .returned (.tuple #[]) ∧ Blk w' G t ((writeW l off (fun i => wd ws (o2 + i)) n).map u8v) ∧ w.grownBy w' (some G) := by
  have HG := Lib.hid hG
  have HH := Lib.hid hH
  have HL := Lib.hid hl
  have HW := Lib.hid hw
  have HHG := Lib.hid hHG
  clear hG hH hl hw hHG
  go_enter Try.func17, Try.ntmps17
  go_wp2
  go_loopw [8, 4, 5] (fun i _ _ wr => ∃ j : Nat, j ≤ n ∧ i = .int .i64 j ∧ Blk wr G t ((writeW l off (fun i => wd ws (o2 + i)) j).map u8v) ∧ Blk wr H th (ws.map u32v) ∧ w.grownBy wr (some G)) (fun i _ _ _ => n - (intOf i).toNat)
  case atStart => exact ⟨0, by omega, rfl, HG.out, HH.out, World.grownBy.refl _ _⟩
  case round =>
    clear HG HH
    obtain ⟨j, hj, rfl, hg, hh, hgr⟩ := hrel
    by_cases hlt : j < n
    · have fx := hh.word (o2 + j) (by have := HW.out; omega)
      have hlen : (writeW l off (fun i => wd ws (o2 + i)) j).length = M := by rw [writeW_length _ _ _ _ (by have := HL.out; omega)]; exact HL.out
      have hnx : writeW l off (fun i => wd ws (o2 + i)) (j + 1) = putL (writeW l off (fun i => wd ws (o2 + i)) j) (off + 4 * j) (littleL (wd ws (o2 + j)).toNat 4) := rfl
      generalize writeW l off (fun i => wd ws (o2 + i)) j = cur at hg hlen hnx
      have HX := Lib.hid hnx
      clear hnx
      obtain ⟨x, hx⟩ : ∃ x, wd ws (o2 + j) = x := ⟨_, rfl⟩
      rw [hx] at fx
      have HB := Lib.hid (And.intro hg (And.intro hh hgr))
      clear hg hh hgr
      have hwr : IntKind.i64.wrap ((j : Int) * 4) = (j : Int) * 4 := IntWalk.i64_in _ (by omega)
      have hwc : IntKind.u64.wrap (x.toNat : Int) = (x.toNat : Int) := by
        have := x.toNat_lt
        rw [IntKind.wrap_u64]
        omega
      have hsl : ∀ w' : World, (Instr.sliceAt 27 (.slice (some ⟨G, off, none⟩) (4 * n) c) (some (.int .i64 ((j : Int) * 4))) none none).run Try.prog w' = .ok (.slice (some ⟨G, off + 4 * j, none⟩) (4 * n - 4 * j) (c - 4 * j)) w' := by
        intro w'
        have h := slice_l (some ⟨G, off, none⟩) (4 * n) c (4 * j) (by omega) w'
        rw [addrOf, if_neg (by omega), Option.map_some, Go.WideShapes.add_plain, Nat.mul_one, show ((4 * j : Nat) : Int) = (j : Int) * 4 by omega] at h
        exact h
      have HLI := Lib.hid (fun w' : World => little_any x.toNat (by have := x.toNat_lt; omega) 4 (by omega) (by omega) w')
      have HLEN := Lib.hid hlen
      clear hlen
      go_upto_region 3 with fail
      refine wp_region_held_drew (S := fun _ => True) (by kernel_rfl) (trivial) (fun hHeld => ?_)
      refine take_first (v := ?_) 0 rfl (by kernel_rfl) (by kernel_rfl) (by kernel_rfl) (fun _ _ _ h => h) (Or.inl ⟨by rfl, ?_⟩) (by assumption) ?_
      rotate_left
      · (intro w hSw; (try dsimp only at hSw); go_simp; try with_reducible rfl)
      (try simp only [Act.put, List.setIfInBounds_toArray, List.set_cons_zero, List.set_cons_succ])
      refine take_first (v := ?_) 1 rfl (by kernel_rfl) (by kernel_rfl) (by kernel_rfl) (fun _ _ _ h => h) (Or.inl ⟨by rfl, ?_⟩) (by assumption) ?_
      rotate_left
      · (intro w hSw; (try dsimp only at hSw); go_simp; try with_reducible rfl)
      (try simp only [Act.put, List.setIfInBounds_toArray, List.set_cons_zero, List.set_cons_succ])
      refine take_first (v := ?_) 2 rfl (by kernel_rfl) (by kernel_rfl) (by kernel_rfl) (fun _ _ _ h => h) (Or.inl ⟨by rfl, ?_⟩) (by assumption) ?_
      rotate_left
      · (intro w hSw; (try dsimp only at hSw); go_simp; try with_reducible rfl)
      (try simp only [Act.put, List.setIfInBounds_toArray, List.set_cons_zero, List.set_cons_succ])
      refine take_first (v := ?_) 3 rfl (by kernel_rfl) (by kernel_rfl) (by kernel_rfl) (fun _ _ _ h => h) (Or.inl ⟨by rfl, ?_⟩) (by assumption) ?_
      rotate_left
      · (intro w hSw; (try dsimp only at hSw); go_simp; try with_reducible rfl)
      (try simp only [Act.put, List.setIfInBounds_toArray, List.set_cons_zero, List.set_cons_succ])
      refine take_first (v := ?_) 4 rfl (by kernel_rfl) (by kernel_rfl) (by kernel_rfl) (fun _ _ _ h => h) (Or.inl ⟨by rfl, ?_⟩) (by assumption) ?_
      rotate_left
      · (intro w hSw; (try dsimp only at hSw); go_simp; try with_reducible rfl)
      (try simp only [Act.put, List.setIfInBounds_toArray, List.set_cons_zero, List.set_cons_succ])
      refine take_first (v := ?_) 5 rfl (by kernel_rfl) (by kernel_rfl) (by kernel_rfl) (fun _ _ _ h => h) (Or.inl ⟨by rfl, ?_⟩) (by assumption) ?_
      rotate_left
      · (intro w hSw; (try dsimp only at hSw); go_simp; try with_reducible rfl)
      (try simp only [Act.put, List.setIfInBounds_toArray, List.set_cons_zero, List.set_cons_succ])
      refine step_one 6 rfl (by kernel_rfl) (fun K hK => ?_)
      go_simp
      refine (HLI.out _).mono ?_
      rintro e wq ⟨rfl, hown, hbq⟩
      have HB8 := Lib.hid (show Blk wq G t (cur.map u8v) ∧ Blk wq H th (ws.map u32v) ∧ w.grownBy wq (some G) from ⟨HB.out.1.drew.below hbq HB.out.1.lt, HB.out.2.1.drew.below hbq HB.out.2.1.lt, grown_below (grown_drew HB.out.2.2) hbq⟩)
      have HO := Lib.hid hown
      clear hown hbq
      go_wp2_with fail
      refine hK.out _ _ (trivial) (fun hHeld => ?_)
      clear hK K
      (try simp only [Act.put, List.setIfInBounds_toArray, List.set_cons_zero, List.set_cons_succ])
      refine step_one 7 rfl (by kernel_rfl) (fun K hK => ?_)
      refine step_copy_bytes _ rfl (.tmp 16) (.tmp 19) 27 27 (by rfl) 5 Try.underlying27 (by kernel_rfl) G (off + 4 * j) (4 * n - 4 * j) (c - 4 * j) ⟨wr.heap.size, 0, none⟩ 4 4 (by rfl) (by rfl) (cur.map u8v) t HB8.out.1 ((littleL x.toNat 4).map u8v) (by rw [List.length_map, littleL_length]; exact (Nat.min_eq_left (show 4 ≤ 4 * n - 4 * j by omega)).symm) (Rd.of_own HO.out).src (by simp only [List.length_map, littleL_length, HLEN.out]; omega) (u8v_one _) ?_
      intro w8 hb8 hg8
      rw [putL_map] at hb8
      refine hK.out _ _ (trivial) (fun hHeld => ?_)
      clear hK K
      (try simp only [Act.put, List.setIfInBounds_toArray, List.set_cons_zero, List.set_cons_succ])
      refine wpAnyH_done (by kernel_rfl) ?_ _
      have HN := Lib.hid (show Blk w8 G t ((writeW l off (fun i => wd ws (o2 + i)) (j + 1)).map u8v) ∧ Blk w8 H th (ws.map u32v) ∧ w.grownBy w8 (some G) from by
        rw [HX.out, hx]
        exact ⟨hb8, HB8.out.2.1.grown hg8 (by intro e; injection e with e; exact HHG.out e), grown_trans' HB8.out.2.2 hg8⟩)
      clear hb8 hg8 HB8 HB HO hwr hwc hsl
      go_wp2
      go_roundw
      case rel => exact ⟨j + 1, by omega, by go_num, HN.out.1, HN.out.2.1, HN.out.2.2⟩
      case measure => simp [intOf]; omega
    · obtain rfl : j = n := by omega
      have HN := Lib.hid (And.intro hg hgr)
      clear hg hgr hh
      go_wp2
      refine bodyPost_end (results_none rfl _ _ _) rfl ⟨rfl, HN.out.1, HN.out.2⟩

set_option maxRecDepth 100000 in
theorem xcStateOf_any (k inn : List UInt8) (hk : k.length = 32) (hin : inn.length = 16) (w : World) :
    Calls Try.prog 16 #[.agg (k.map u8v).toArray, .agg (inn.map u8v).toArray] w fun e w' => e = .returned (.agg ((xcW k inn).map u32v).toArray) ∧ Below w.heap.size w w' := by
  obtain ⟨ck, hck⟩ : ∃ ck, (k.map u8v).toArray = ck := ⟨_, rfl⟩
  obtain ⟨ci, hci⟩ : ∃ ck, (inn.map u8v).toArray = ck := ⟨_, rfl⟩
  rw [hck, hci]
  have HM := Lib.hid (show Mem w [blkE (w.heap.size + 1 + 1) 44 z16, blkE (w.heap.size + 1) 24 (inn.map u8v), blkE w.heap.size 23 (k.map u8v)] (((w.alloc (.cells ck 23)).alloc (.cells ci 24)).alloc (.cells #[.int .u32 0, .int .u32 0, .int .u32 0, .int .u32 0, .int .u32 0, .int .u32 0, .int .u32 0, .int .u32 0, .int .u32 0, .int .u32 0, .int .u32 0, .int .u32 0, .int .u32 0, .int .u32 0, .int .u32 0, .int .u32 0] 44)) from (((Mem.nil w).alloc rfl 23 ck (k.map u8v) hck.symm).alloc (by simp) 24 ci (inn.map u8v) hci.symm).alloc (by simp) 44 #[.int .u32 0, .int .u32 0, .int .u32 0, .int .u32 0, .int .u32 0, .int .u32 0, .int .u32 0, .int .u32 0, .int .u32 0, .int .u32 0, .int .u32 0, .int .u32 0, .int .u32 0, .int .u32 0, .int .u32 0, .int .u32 0] z16 rfl)
  have HK := Lib.hid hk
  have HN := Lib.hid hin
  have HBM := Lib.hid base_map
  clear hk hin hck hci
  go_enter Try.func16, Try.ntmps16
  go_upto_region 1 with fail
  generalize hw1 : (((w.alloc (.cells ck 23)).alloc (.cells ci 24)).alloc (.cells #[.int .u32 0, .int .u32 0, .int .u32 0, .int .u32 0, .int .u32 0, .int .u32 0, .int .u32 0, .int .u32 0, .int .u32 0, .int .u32 0, .int .u32 0, .int .u32 0, .int .u32 0, .int .u32 0, .int .u32 0, .int .u32 0] 44)) = w1 at HM ⊢
  have HS1 := Lib.hid (show w1.heap.size = w.heap.size + 3 by rw [← hw1]; simp)
  clear hw1
  have HA := Lib.hid (show Mem w [blkE w1.heap.size 44 z16, blkE (w.heap.size + 1 + 1) 44 z16, blkE (w.heap.size + 1) 24 (inn.map u8v), blkE w.heap.size 23 (k.map u8v)] (w1.alloc (.cells #[.int .u32 0, .int .u32 0, .int .u32 0, .int .u32 0, .int .u32 0, .int .u32 0, .int .u32 0, .int .u32 0, .int .u32 0, .int .u32 0, .int .u32 0, .int .u32 0, .int .u32 0, .int .u32 0, .int .u32 0, .int .u32 0] 44)) from HM.out.alloc rfl 44 #[.int .u32 0, .int .u32 0, .int .u32 0, .int .u32 0, .int .u32 0, .int .u32 0, .int .u32 0, .int .u32 0, .int .u32 0, .int .u32 0, .int .u32 0, .int .u32 0, .int .u32 0, .int .u32 0, .int .u32 0, .int .u32 0] z16 rfl)
  go_upto_region 2 with (refine wpList_store_blk rfl 44 (.tmp 5) (.tmp 6) rfl w1.heap.size (baseW.map u32v) rfl (by rw [HBM.out]; rfl) 44 z16 (HA.out.blk 0 rfl) (cells16 baseW rfl) rfl (u32v_one _) ?_; intro w2 hb2 hg2)
  (try simp only [Act.put])
  replace HM := Lib.hid (show Mem w [blkE w1.heap.size 44 (baseW.map u32v), blkE (w.heap.size + 1 + 1) 44 z16, blkE (w.heap.size + 1) 24 (inn.map u8v), blkE w.heap.size 23 (k.map u8v)] w2 from HA.out.put 0 rfl _ hg2 hb2)
  clear hb2 hg2 HA HBM
  have HGN := Lib.hid (show w1.heap.size ≠ w.heap.size ∧ w1.heap.size ≠ w.heap.size + 1 by have := HS1.out; omega)
  clear HS1
  generalize w1.heap.size = G at HM HGN ⊢
  go_cut [] (fun wx => Mem w [blkE G 44 ((fillW baseW 4 (wordL k) 8).map u32v), blkE (w.heap.size + 1 + 1) 44 z16, blkE (w.heap.size + 1) 24 (inn.map u8v), blkE w.heap.size 23 (k.map u8v)] wx)
  case first =>
    have RW := Lib.hid (fun w' : World => fun h1 h2 => xcReadWords_any G 4 8 12 w.heap.size 32 44 23 (baseW) k rfl (by omega) (by omega) HK.out (by omega) (by omega) HGN.out.1 w' h1 h2)
    go_region_with ((go_at_call 28; refine (RW.out w2.drew (HM.out.drew.blk 0 rfl) (HM.out.drew.blk 3 rfl)).mono ?_; rintro e w4 ⟨rfl, hb4, hg4⟩))
    all_goals (go_wp2; go_meet; exact HM.out.drew.put 0 rfl _ hg4 hb4)
  case rest =>
    replace HM := Lib.hid hcut
    clear hcut
    go_upto_region 3 with fail
    go_cut [] (fun wx => Mem w [blkE G 44 ((fillW (fillW baseW 4 (wordL k) 8) 12 (wordL inn) 4).map u32v), blkE (w.heap.size + 1 + 1) 44 z16, blkE (w.heap.size + 1) 24 (inn.map u8v), blkE w.heap.size 23 (k.map u8v)] wx)
    case first =>
      have RW := Lib.hid (fun w' : World => fun h1 h2 => xcReadWords_any G 12 4 4 (w.heap.size + 1) 16 44 24 (fillW baseW 4 (wordL k) 8) inn (by rw [fillW_length]; rfl) (by omega) (by omega) HN.out (by omega) (by omega) HGN.out.2 w' h1 h2)
      go_region_with ((go_at_call 28; refine (RW.out wc.drew (HM.out.drew.blk 0 rfl) (HM.out.drew.blk 2 rfl)).mono ?_; rintro e w4 ⟨rfl, hb4, hg4⟩))
      all_goals (go_wp2; go_meet; exact HM.out.drew.put 0 rfl _ hg4 hb4)
    case rest =>
      replace HM := Lib.hid hcut
      clear hcut
      have HZ := Lib.hid (show fillW (fillW baseW 4 (wordL k) 8) 12 (wordL inn) 4 = xcW k inn from rfl)
      have HLz := Lib.hid (xcW_length k inn)
      rw [HZ.out] at HM
      clear HZ
      obtain ⟨lz, hlz⟩ : ∃ l, xcW k inn = l := ⟨_, rfl⟩
      rw [hlz] at HM HLz
      have HSZ := Lib.hid hlz
      clear hlz
      obtain ⟨cz, hcz⟩ : ∃ cz, (lz.map u32v).toArray = cz := ⟨_, rfl⟩
      have HCZ := Lib.hid hcz
      clear hcz
      go_wp2_with (first | (refine wpList_load_blk rfl 44 (.tmp 5) rfl G rfl 44 (lz.map u32v) (HM.out.blk 0 rfl) 16 43 Try.underlying44 (cells16 lz HLz.out) ?_; rw [HCZ.out]) | (refine wpList_store_blk rfl 44 (.tmp 4) (.tmp 13) rfl (w.heap.size + 1 + 1) (lz.map u32v) rfl (by show Value.agg cz = _; rw [HCZ.out]) 44 z16 (HM.out.blk 1 rfl) (cells16 lz HLz.out) (by rw [List.length_map, HLz.out]; rfl) (u32v_one _) ?_; intro w9 hb9 hg9))
      exact bodyPost_ret (results_blk rfl _ _ (w.heap.size + 1 + 1) 44 (lz.map u32v) 16 43 rfl hb9 Try.underlying44 (cells16 lz HLz.out)) rfl ⟨by rw [HSZ.out], (HM.out.put 1 rfl _ hg9 hb9).bel⟩
end Go.Proofs.Ytkbefhmgcodpaaa
