/-
  The contract of the reference's EncodeInitiation. The contract of the reference's EncodeResponse. The contract of the reference's EncodeCookie. No statement is proved here.
-/
import Derived.Test.YtaolhndbpgjlcaaMsJoin
namespace Go.Proofs.Ytaolhndbpgjlcaa
open Go.RowKit

theorem refEnc1_parts (s : Nat) (bs : List UInt8) (hb : bs.length = 140) : (msHead 1 ++ (littleL s 4 ++ ((bs.drop 0).take 32 ++ ((bs.drop 32).take 48 ++ ((bs.drop 80).take 28 ++ ((bs.drop 108).take 16 ++ ((bs.drop 124).take 16))))))) = encB 1 (MsgM.mk [s] bs) := by
  have e : (bs.drop 0).take 32 ++ ((bs.drop 32).take 48 ++ ((bs.drop 80).take 28 ++ ((bs.drop 108).take 16 ++ ((bs.drop 124).take 16)))) = bs := by
    apply List.ext_getElem
    · simp only [List.length_append, List.length_take, List.length_drop]; omega
    · intro i h1 h2
      simp only [List.getElem_append, List.getElem_take, List.getElem_drop, List.length_take, List.length_drop]
      repeat' split
      all_goals (congr 1; omega)
  rw [e]
  simp only [encB, numsB, List.flatMap_cons, List.flatMap_nil, List.append_nil, List.append_assoc]
set_option maxRecDepth 100000 in
set_option maxHeartbeats 8000000 in
theorem refEnc1 : MsEncC 10 1 := by
  intro m0 hok w
  obtain ⟨nums, bs⟩ := m0
  obtain ⟨s, hnum⟩ : ∃ s, nums = [s] := by
    have h := hok.1
    match nums, h with
    | [s], _ => exact ⟨s, rfl⟩
  subst hnum
  have HOK := Lib.hid hok
  have HU0 := Lib.hid (refU32_any s (hok.2.2 s (by simp)))
  have HLEN := Lib.hid (show (encB 1 (MsgM.mk [s] bs)).length = 148 from encB_length hok)
  have hfl := refEnc1_parts s bs hok.2.1
  obtain ⟨cm, hcm⟩ : ∃ z, (MsgM.mk [s] bs).cells.toArray = z := ⟨_, rfl⟩
  have HM := Lib.hid (show Lows w [blkL w.heap.size 30 (MsgM.mk [s] bs).cells] (w.alloc (.cells cm 30)) from (Lows.nil w).alloc 30 cm (MsgM.mk [s] bs).cells hcm.symm)
  rw [hcm]
  have HFL := Lib.hid (show ([(msHead 1 : List UInt8), (littleL s 4 : List UInt8), ((bs.drop 0).take 32 : List UInt8), ((bs.drop 32).take 48 : List UInt8), ((bs.drop 80).take 28 : List UInt8), ((bs.drop 108).take 16 : List UInt8), ((bs.drop 124).take 16 : List UInt8)] : List (List UInt8)).flatten = encB 1 (MsgM.mk [s] bs) from by
    rw [← hfl]; simp only [List.flatten_cons, List.flatten_nil, List.append_nil])
  clear hok hfl hcm
  go_enter Try.func10, Try.ntmps10
  go_upto_region 1 with fail
  generalize w.alloc (.cells cm 30) = w1 at HM ⊢
  refine wp_region_held_drew (S := fun W' => Lows w [blkL w.heap.size 30 (MsgM.mk [s] bs).cells] W') (by kernel_rfl) (HM.out.drew) (fun hHeld => ?_)
  replace HM := Lib.hid HM.out.drew
  generalize w1.drew = wd1 at HM hHeld ⊢
  refine take_first (v := ?_) 1 rfl (by kernel_rfl) (by kernel_rfl) (by kernel_rfl) (fun _ _ _ h => h) (Or.inl ⟨by rfl, ?_⟩) (by assumption) ?_
  rotate_left
  · (intro w hSw; (try dsimp only at hSw); go_simp; try with_reducible rfl)
  (try simp only [Act.put, List.setIfInBounds_toArray, List.set_cons_zero, List.set_cons_succ])
  refine take_first (v := ?_) 2 rfl (by kernel_rfl) (by kernel_rfl) (by kernel_rfl) (fun _ _ _ h => h) (Or.inl ⟨by rfl, ?_⟩) (by assumption) ?_
  rotate_left
  · (intro w hSw; (try dsimp only at hSw); have fl := msg_num (Lows.blk hSw 0 rfl) 0 s rfl; go_simp; try with_reducible rfl)
  (try simp only [Act.put, List.setIfInBounds_toArray, List.set_cons_zero, List.set_cons_succ])
  refine take_first (v := ?_) 4 rfl (by kernel_rfl) (by kernel_rfl) (by kernel_rfl) (fun _ _ _ h => h) (Or.inl ⟨by rfl, ?_⟩) (by assumption) ?_
  rotate_left
  · (intro w hSw; (try dsimp only at hSw); go_simp; try with_reducible rfl)
  (try simp only [Act.put, List.setIfInBounds_toArray, List.set_cons_zero, List.set_cons_succ])
  refine take_first (v := ?_) 5 rfl (by kernel_rfl) (by kernel_rfl) (by kernel_rfl) (fun _ _ _ h => h) (Or.inl ⟨by rfl, ?_⟩) (by assumption) ?_
  rotate_left
  · (intro w hSw; (try dsimp only at hSw); go_simp; try with_reducible rfl)
  (try simp only [Act.put, List.setIfInBounds_toArray, List.set_cons_zero, List.set_cons_succ])
  refine take_first (v := ?_) 6 rfl (by kernel_rfl) (by kernel_rfl) (by kernel_rfl) (fun _ _ _ h => h) (Or.inl ⟨by rfl, ?_⟩) (by assumption) ?_
  rotate_left
  · (intro w hSw; (try dsimp only at hSw); go_simp; try with_reducible rfl)
  (try simp only [Act.put, List.setIfInBounds_toArray, List.set_cons_zero, List.set_cons_succ])
  refine take_first (v := ?_) 7 rfl (by kernel_rfl) (by kernel_rfl) (by kernel_rfl) (fun _ _ _ h => h) (Or.inl ⟨by rfl, ?_⟩) (by assumption) ?_
  rotate_left
  · (intro w hSw; (try dsimp only at hSw); go_simp; try with_reducible rfl)
  (try simp only [Act.put, List.setIfInBounds_toArray, List.set_cons_zero, List.set_cons_succ])
  refine take_first (v := ?_) 8 rfl (by kernel_rfl) (by kernel_rfl) (by kernel_rfl) (fun _ _ _ h => h) (Or.inl ⟨by rfl, ?_⟩) (by assumption) ?_
  rotate_left
  · (intro w hSw; (try dsimp only at hSw); go_simp; try with_reducible rfl)
  (try simp only [Act.put, List.setIfInBounds_toArray, List.set_cons_zero, List.set_cons_succ])
  refine take_first (v := ?_) 9 rfl (by kernel_rfl) (by kernel_rfl) (by kernel_rfl) (fun _ _ _ h => h) (Or.inl ⟨by rfl, ?_⟩) (by assumption) ?_
  rotate_left
  · (intro w hSw; (try dsimp only at hSw); go_simp; try with_reducible rfl)
  (try simp only [Act.put, List.setIfInBounds_toArray, List.set_cons_zero, List.set_cons_succ])
  refine take_first (v := ?_) 10 rfl (by kernel_rfl) (by kernel_rfl) (by kernel_rfl) (fun _ _ _ h => h) (Or.inl ⟨by rfl, ?_⟩) (by assumption) ?_
  rotate_left
  · (intro w hSw; (try dsimp only at hSw); go_simp; try with_reducible rfl)
  (try simp only [Act.put, List.setIfInBounds_toArray, List.set_cons_zero, List.set_cons_succ])
  refine take_first (v := ?_) 11 rfl (by kernel_rfl) (by kernel_rfl) (by kernel_rfl) (fun _ _ _ h => h) (Or.inl ⟨by rfl, ?_⟩) (by assumption) ?_
  rotate_left
  · (intro w hSw; (try dsimp only at hSw); go_simp; try with_reducible rfl)
  (try simp only [Act.put, List.setIfInBounds_toArray, List.set_cons_zero, List.set_cons_succ])
  refine take_first (v := ?_) 12 rfl (by kernel_rfl) (by kernel_rfl) (by kernel_rfl) (fun _ _ _ h => h) (Or.inl ⟨by rfl, ?_⟩) (by assumption) ?_
  rotate_left
  · (intro w hSw; (try dsimp only at hSw); go_simp; try with_reducible rfl)
  (try simp only [Act.put, List.setIfInBounds_toArray, List.set_cons_zero, List.set_cons_succ])
  refine take_first (v := ?_) 13 rfl (by kernel_rfl) (by kernel_rfl) (by kernel_rfl) (fun _ _ _ h => h) (Or.inl ⟨by rfl, ?_⟩) (by assumption) ?_
  rotate_left
  · (intro w hSw; (try dsimp only at hSw); go_simp; try with_reducible rfl)
  (try simp only [Act.put, List.setIfInBounds_toArray, List.set_cons_zero, List.set_cons_succ])
  refine step_two 0 3 rfl rfl (by kernel_rfl) (fun K hK => ?_) (fun K hK => ?_)
  · clear hHeld
    go_simp
    have hm9 := HM.out.alloc 5 #[.int .u8 1, .int .u8 0, .int .u8 0, .int .u8 0] ((msHead 1).map u8v) rfl
    generalize wd1.alloc (.cells #[.int .u8 1, .int .u8 0, .int .u8 0, .int .u8 0] 5) = wy2 at hm9 ⊢
    generalize wd1.heap.size = g4 at hm9 ⊢
    replace HM := Lib.hid (show Lows w [rdL (some ⟨g4, 0, none⟩) 4 (msHead 1), blkL w.heap.size 30 (MsgM.mk [s] bs).cells] wy2 from (hm9.cons (rdL (some ⟨g4, 0, none⟩) 4 (msHead 1)) (blk_all (hm9.blk 0 rfl) rfl)).tail 1)
    clear hm9
    refine hK.out _ _ (HM.out.tail 0) (fun hHeld => ?_)
    clear hK K
    (try simp only [Act.put, List.setIfInBounds_toArray, List.set_cons_zero, List.set_cons_succ])
    refine wpAnyH_stronger (T := fun W' => Lows w [rdL (some ⟨g4, 0, none⟩) 4 (msHead 1), blkL w.heap.size 30 (MsgM.mk [s] bs).cells] W') (fun _ h' => (h'.tail 0)) _ _ _ _ ?_
    replace hHeld := HM.out
    refine step_one 3 rfl (by kernel_rfl) (fun K hK => ?_)
    clear hHeld
    go_simp
    refine (HU0.out _).mono ?_
    rintro e wy3 ⟨A0, c0, rfl, hr, hb⟩
    replace HM := Lib.hid (show Lows w [rdL A0 4 (littleL s 4), rdL (some ⟨g4, 0, none⟩) 4 (msHead 1), blkL w.heap.size 30 (MsgM.mk [s] bs).cells] wy3 from (HM.out.below hb).cons (rdL A0 4 (littleL s 4)) (hr))
    clear hb
    go_wp2_with fail
    refine hK.out _ _ (HM.out.tail 0) (fun hHeld => ?_)
    clear hK K
    (try simp only [Act.put, List.setIfInBounds_toArray, List.set_cons_zero, List.set_cons_succ])
    refine wpAnyH_stronger (T := fun W' => Lows w [rdL A0 4 (littleL s 4), rdL (some ⟨g4, 0, none⟩) 4 (msHead 1), blkL w.heap.size 30 (MsgM.mk [s] bs).cells] W') (fun _ h' => (h'.tail 0)) _ _ _ _ ?_
    replace hHeld := HM.out
    refine step_one 14 rfl (by kernel_rfl) (fun K hK => ?_)
    clear hHeld
    go_simp
    have hm9 := HM.out.alloc 38 #[.slice (some ⟨g4, 0, none⟩) 4 4, .slice A0 4 c0, .slice (some ⟨w.heap.size, 1, none⟩) 32 32, .slice (some ⟨w.heap.size, 33, none⟩) 48 48, .slice (some ⟨w.heap.size, 81, none⟩) 28 28, .slice (some ⟨w.heap.size, 109, none⟩) 16 16, .slice (some ⟨w.heap.size, 125, none⟩) 16 16] ([.slice (some ⟨g4, 0, none⟩) 4 4, .slice A0 4 c0, .slice (some ⟨w.heap.size, 1, none⟩) 32 32, .slice (some ⟨w.heap.size, 33, none⟩) 48 48, .slice (some ⟨w.heap.size, 81, none⟩) 28 28, .slice (some ⟨w.heap.size, 109, none⟩) 16 16, .slice (some ⟨w.heap.size, 125, none⟩) 16 16]) rfl
    generalize wy3.alloc (.cells #[.slice (some ⟨g4, 0, none⟩) 4 4, .slice A0 4 c0, .slice (some ⟨w.heap.size, 1, none⟩) 32 32, .slice (some ⟨w.heap.size, 33, none⟩) 48 48, .slice (some ⟨w.heap.size, 81, none⟩) 28 28, .slice (some ⟨w.heap.size, 109, none⟩) 16 16, .slice (some ⟨w.heap.size, 125, none⟩) 16 16] 38) = wy4 at hm9 ⊢
    generalize wy3.heap.size = g7 at hm9 ⊢
    replace HM := Lib.hid (show Lows w [blkL g7 38 ([.slice (some ⟨g4, 0, none⟩) 4 4, .slice A0 4 c0, .slice (some ⟨w.heap.size, 1, none⟩) 32 32, .slice (some ⟨w.heap.size, 33, none⟩) 48 48, .slice (some ⟨w.heap.size, 81, none⟩) 28 28, .slice (some ⟨w.heap.size, 109, none⟩) 16 16, .slice (some ⟨w.heap.size, 125, none⟩) 16 16]), rdL A0 4 (littleL s 4), rdL (some ⟨g4, 0, none⟩) 4 (msHead 1), blkL w.heap.size 30 (MsgM.mk [s] bs).cells] wy4 from hm9)
    clear hm9
    refine hK.out _ _ (HM.out.tail 0) (fun hHeld => ?_)
    clear hK K
    (try simp only [Act.put, List.setIfInBounds_toArray, List.set_cons_zero, List.set_cons_succ])
    refine wpAnyH_stronger (T := fun W' => Lows w [blkL g7 38 ([.slice (some ⟨g4, 0, none⟩) 4 4, .slice A0 4 c0, .slice (some ⟨w.heap.size, 1, none⟩) 32 32, .slice (some ⟨w.heap.size, 33, none⟩) 48 48, .slice (some ⟨w.heap.size, 81, none⟩) 28 28, .slice (some ⟨w.heap.size, 109, none⟩) 16 16, .slice (some ⟨w.heap.size, 125, none⟩) 16 16]), rdL A0 4 (littleL s 4), rdL (some ⟨g4, 0, none⟩) 4 (msHead 1), blkL w.heap.size 30 (MsgM.mk [s] bs).cells] W') (fun _ h' => (h'.tail 0)) _ _ _ _ ?_
    replace hHeld := HM.out
    refine step_one 15 rfl (by kernel_rfl) (fun K hK => ?_)
    clear hHeld
    go_simp
    refine (refJoin_rows g7 38 [⟨(some ⟨g4, 0, none⟩), 4, 4, msHead 1⟩, ⟨A0, 4, c0, littleL s 4⟩, ⟨(some ⟨w.heap.size, 1, none⟩), 32, 32, (bs.drop 0).take 32⟩, ⟨(some ⟨w.heap.size, 33, none⟩), 48, 48, (bs.drop 32).take 48⟩, ⟨(some ⟨w.heap.size, 81, none⟩), 28, 28, (bs.drop 80).take 28⟩, ⟨(some ⟨w.heap.size, 109, none⟩), 16, 16, (bs.drop 108).take 16⟩, ⟨(some ⟨w.heap.size, 125, none⟩), 16, 16, (bs.drop 124).take 16⟩] 7 rfl (by omega) (encB 1 (MsgM.mk [s] bs)) HFL.out 148 HLEN.out (by omega) _ (HM.out.blk 0 rfl) (by
      intro p hp
      simp only [List.mem_cons, List.not_mem_nil, or_false] at hp
      rcases hp with rfl | rfl | rfl | rfl | rfl | rfl | rfl
      · exact HM.out.rd 2 rfl
      · exact HM.out.rd 1 rfl
      · exact msg_rd (HM.out.blk 3 rfl) HOK.out 1 0 32 rfl (by decide)
      · exact msg_rd (HM.out.blk 3 rfl) HOK.out 33 32 48 rfl (by decide)
      · exact msg_rd (HM.out.blk 3 rfl) HOK.out 81 80 28 rfl (by decide)
      · exact msg_rd (HM.out.blk 3 rfl) HOK.out 109 108 16 rfl (by decide)
      · exact msg_rd (HM.out.blk 3 rfl) HOK.out 125 124 16 rfl (by decide)
      )).mono ?_
    rintro e wy5 ⟨A9, c9, rfl, hc1, hc2, hr, hb⟩
    have HRES := Lib.hid (And.intro hc1 (And.intro hc2 (And.intro hr (HM.out.below hb).bel)))
    replace HM := Lib.hid (show Lows w [blkL g7 38 ([.slice (some ⟨g4, 0, none⟩) 4 4, .slice A0 4 c0, .slice (some ⟨w.heap.size, 1, none⟩) 32 32, .slice (some ⟨w.heap.size, 33, none⟩) 48 48, .slice (some ⟨w.heap.size, 81, none⟩) 28 28, .slice (some ⟨w.heap.size, 109, none⟩) 16 16, .slice (some ⟨w.heap.size, 125, none⟩) 16 16]), rdL A0 4 (littleL s 4), rdL (some ⟨g4, 0, none⟩) 4 (msHead 1), blkL w.heap.size 30 (MsgM.mk [s] bs).cells] wy5 from HM.out.below hb)
    clear hr hb hc1 hc2
    go_wp2_with fail
    refine hK.out _ _ (HM.out) (fun hHeld => ?_)
    clear hK K
    (try simp only [Act.put, List.setIfInBounds_toArray, List.set_cons_zero, List.set_cons_succ])
    refine take_first (v := ?_) 16 rfl (by kernel_rfl) (by kernel_rfl) (by kernel_rfl) (fun _ _ _ h => h) (Or.inl ⟨by rfl, ?_⟩) (by assumption) ?_
    rotate_left
    · (intro w hSw; (try dsimp only at hSw); go_simp; try with_reducible rfl)
    (try simp only [Act.put, List.setIfInBounds_toArray, List.set_cons_zero, List.set_cons_succ])
    refine wpAnyH_done (by kernel_rfl) ?_ _
    clear HM hHeld
    go_wp2_with fail
    go_ret
    exact ⟨A9, c9, rfl, HRES.out.1, HRES.out.2.1, HRES.out.2.2.1, HRES.out.2.2.2⟩
  · clear hHeld
    go_simp
    refine (HU0.out _).mono ?_
    rintro e wy2 ⟨A0, c0, rfl, hr, hb⟩
    replace HM := Lib.hid (show Lows w [rdL A0 4 (littleL s 4), blkL w.heap.size 30 (MsgM.mk [s] bs).cells] wy2 from (HM.out.below hb).cons (rdL A0 4 (littleL s 4)) (hr))
    clear hb
    go_wp2_with fail
    refine hK.out _ _ (HM.out.tail 0) (fun hHeld => ?_)
    clear hK K
    (try simp only [Act.put, List.setIfInBounds_toArray, List.set_cons_zero, List.set_cons_succ])
    refine wpAnyH_stronger (T := fun W' => Lows w [rdL A0 4 (littleL s 4), blkL w.heap.size 30 (MsgM.mk [s] bs).cells] W') (fun _ h' => (h'.tail 0)) _ _ _ _ ?_
    replace hHeld := HM.out
    refine step_one 0 rfl (by kernel_rfl) (fun K hK => ?_)
    clear hHeld
    go_simp
    have hm9 := HM.out.alloc 5 #[.int .u8 1, .int .u8 0, .int .u8 0, .int .u8 0] ((msHead 1).map u8v) rfl
    generalize wy2.alloc (.cells #[.int .u8 1, .int .u8 0, .int .u8 0, .int .u8 0] 5) = wy3 at hm9 ⊢
    generalize wy2.heap.size = g4 at hm9 ⊢
    replace HM := Lib.hid (show Lows w [rdL (some ⟨g4, 0, none⟩) 4 (msHead 1), rdL A0 4 (littleL s 4), blkL w.heap.size 30 (MsgM.mk [s] bs).cells] wy3 from (hm9.cons (rdL (some ⟨g4, 0, none⟩) 4 (msHead 1)) (blk_all (hm9.blk 0 rfl) rfl)).tail 1)
    clear hm9
    refine hK.out _ _ (HM.out.tail 0) (fun hHeld => ?_)
    clear hK K
    (try simp only [Act.put, List.setIfInBounds_toArray, List.set_cons_zero, List.set_cons_succ])
    refine wpAnyH_stronger (T := fun W' => Lows w [rdL (some ⟨g4, 0, none⟩) 4 (msHead 1), rdL A0 4 (littleL s 4), blkL w.heap.size 30 (MsgM.mk [s] bs).cells] W') (fun _ h' => (h'.tail 0)) _ _ _ _ ?_
    replace hHeld := HM.out
    refine step_one 14 rfl (by kernel_rfl) (fun K hK => ?_)
    clear hHeld
    go_simp
    have hm9 := HM.out.alloc 38 #[.slice (some ⟨g4, 0, none⟩) 4 4, .slice A0 4 c0, .slice (some ⟨w.heap.size, 1, none⟩) 32 32, .slice (some ⟨w.heap.size, 33, none⟩) 48 48, .slice (some ⟨w.heap.size, 81, none⟩) 28 28, .slice (some ⟨w.heap.size, 109, none⟩) 16 16, .slice (some ⟨w.heap.size, 125, none⟩) 16 16] ([.slice (some ⟨g4, 0, none⟩) 4 4, .slice A0 4 c0, .slice (some ⟨w.heap.size, 1, none⟩) 32 32, .slice (some ⟨w.heap.size, 33, none⟩) 48 48, .slice (some ⟨w.heap.size, 81, none⟩) 28 28, .slice (some ⟨w.heap.size, 109, none⟩) 16 16, .slice (some ⟨w.heap.size, 125, none⟩) 16 16]) rfl
    generalize wy3.alloc (.cells #[.slice (some ⟨g4, 0, none⟩) 4 4, .slice A0 4 c0, .slice (some ⟨w.heap.size, 1, none⟩) 32 32, .slice (some ⟨w.heap.size, 33, none⟩) 48 48, .slice (some ⟨w.heap.size, 81, none⟩) 28 28, .slice (some ⟨w.heap.size, 109, none⟩) 16 16, .slice (some ⟨w.heap.size, 125, none⟩) 16 16] 38) = wy4 at hm9 ⊢
    generalize wy3.heap.size = g7 at hm9 ⊢
    replace HM := Lib.hid (show Lows w [blkL g7 38 ([.slice (some ⟨g4, 0, none⟩) 4 4, .slice A0 4 c0, .slice (some ⟨w.heap.size, 1, none⟩) 32 32, .slice (some ⟨w.heap.size, 33, none⟩) 48 48, .slice (some ⟨w.heap.size, 81, none⟩) 28 28, .slice (some ⟨w.heap.size, 109, none⟩) 16 16, .slice (some ⟨w.heap.size, 125, none⟩) 16 16]), rdL (some ⟨g4, 0, none⟩) 4 (msHead 1), rdL A0 4 (littleL s 4), blkL w.heap.size 30 (MsgM.mk [s] bs).cells] wy4 from hm9)
    clear hm9
    refine hK.out _ _ (HM.out.tail 0) (fun hHeld => ?_)
    clear hK K
    (try simp only [Act.put, List.setIfInBounds_toArray, List.set_cons_zero, List.set_cons_succ])
    refine wpAnyH_stronger (T := fun W' => Lows w [blkL g7 38 ([.slice (some ⟨g4, 0, none⟩) 4 4, .slice A0 4 c0, .slice (some ⟨w.heap.size, 1, none⟩) 32 32, .slice (some ⟨w.heap.size, 33, none⟩) 48 48, .slice (some ⟨w.heap.size, 81, none⟩) 28 28, .slice (some ⟨w.heap.size, 109, none⟩) 16 16, .slice (some ⟨w.heap.size, 125, none⟩) 16 16]), rdL (some ⟨g4, 0, none⟩) 4 (msHead 1), rdL A0 4 (littleL s 4), blkL w.heap.size 30 (MsgM.mk [s] bs).cells] W') (fun _ h' => (h'.tail 0)) _ _ _ _ ?_
    replace hHeld := HM.out
    refine step_one 15 rfl (by kernel_rfl) (fun K hK => ?_)
    clear hHeld
    go_simp
    refine (refJoin_rows g7 38 [⟨(some ⟨g4, 0, none⟩), 4, 4, msHead 1⟩, ⟨A0, 4, c0, littleL s 4⟩, ⟨(some ⟨w.heap.size, 1, none⟩), 32, 32, (bs.drop 0).take 32⟩, ⟨(some ⟨w.heap.size, 33, none⟩), 48, 48, (bs.drop 32).take 48⟩, ⟨(some ⟨w.heap.size, 81, none⟩), 28, 28, (bs.drop 80).take 28⟩, ⟨(some ⟨w.heap.size, 109, none⟩), 16, 16, (bs.drop 108).take 16⟩, ⟨(some ⟨w.heap.size, 125, none⟩), 16, 16, (bs.drop 124).take 16⟩] 7 rfl (by omega) (encB 1 (MsgM.mk [s] bs)) HFL.out 148 HLEN.out (by omega) _ (HM.out.blk 0 rfl) (by
      intro p hp
      simp only [List.mem_cons, List.not_mem_nil, or_false] at hp
      rcases hp with rfl | rfl | rfl | rfl | rfl | rfl | rfl
      · exact HM.out.rd 1 rfl
      · exact HM.out.rd 2 rfl
      · exact msg_rd (HM.out.blk 3 rfl) HOK.out 1 0 32 rfl (by decide)
      · exact msg_rd (HM.out.blk 3 rfl) HOK.out 33 32 48 rfl (by decide)
      · exact msg_rd (HM.out.blk 3 rfl) HOK.out 81 80 28 rfl (by decide)
      · exact msg_rd (HM.out.blk 3 rfl) HOK.out 109 108 16 rfl (by decide)
      · exact msg_rd (HM.out.blk 3 rfl) HOK.out 125 124 16 rfl (by decide)
      )).mono ?_
    rintro e wy5 ⟨A9, c9, rfl, hc1, hc2, hr, hb⟩
    have HRES := Lib.hid (And.intro hc1 (And.intro hc2 (And.intro hr (HM.out.below hb).bel)))
    replace HM := Lib.hid (show Lows w [blkL g7 38 ([.slice (some ⟨g4, 0, none⟩) 4 4, .slice A0 4 c0, .slice (some ⟨w.heap.size, 1, none⟩) 32 32, .slice (some ⟨w.heap.size, 33, none⟩) 48 48, .slice (some ⟨w.heap.size, 81, none⟩) 28 28, .slice (some ⟨w.heap.size, 109, none⟩) 16 16, .slice (some ⟨w.heap.size, 125, none⟩) 16 16]), rdL (some ⟨g4, 0, none⟩) 4 (msHead 1), rdL A0 4 (littleL s 4), blkL w.heap.size 30 (MsgM.mk [s] bs).cells] wy5 from HM.out.below hb)
    clear hr hb hc1 hc2
    go_wp2_with fail
    refine hK.out _ _ (HM.out) (fun hHeld => ?_)
    clear hK K
    (try simp only [Act.put, List.setIfInBounds_toArray, List.set_cons_zero, List.set_cons_succ])
    refine take_first (v := ?_) 16 rfl (by kernel_rfl) (by kernel_rfl) (by kernel_rfl) (fun _ _ _ h => h) (Or.inl ⟨by rfl, ?_⟩) (by assumption) ?_
    rotate_left
    · (intro w hSw; (try dsimp only at hSw); go_simp; try with_reducible rfl)
    (try simp only [Act.put, List.setIfInBounds_toArray, List.set_cons_zero, List.set_cons_succ])
    refine wpAnyH_done (by kernel_rfl) ?_ _
    clear HM hHeld
    go_wp2_with fail
    go_ret
    exact ⟨A9, c9, rfl, HRES.out.1, HRES.out.2.1, HRES.out.2.2.1, HRES.out.2.2.2⟩

theorem refEnc2_parts (s r : Nat) (bs : List UInt8) (hb : bs.length = 80) : (msHead 2 ++ (littleL s 4 ++ (littleL r 4 ++ ((bs.drop 0).take 32 ++ ((bs.drop 32).take 16 ++ ((bs.drop 48).take 16 ++ ((bs.drop 64).take 16))))))) = encB 2 (MsgM.mk [s, r] bs) := by
  have e : (bs.drop 0).take 32 ++ ((bs.drop 32).take 16 ++ ((bs.drop 48).take 16 ++ ((bs.drop 64).take 16))) = bs := by
    apply List.ext_getElem
    · simp only [List.length_append, List.length_take, List.length_drop]; omega
    · intro i h1 h2
      simp only [List.getElem_append, List.getElem_take, List.getElem_drop, List.length_take, List.length_drop]
      repeat' split
      all_goals (congr 1; omega)
  rw [e]
  simp only [encB, numsB, List.flatMap_cons, List.flatMap_nil, List.append_nil, List.append_assoc]
set_option maxRecDepth 100000 in
set_option maxHeartbeats 8000000 in
theorem refEnc2 : MsEncC 12 2 := by
  intro m0 hok w
  obtain ⟨nums, bs⟩ := m0
  obtain ⟨s, r, hnum⟩ : ∃ s r, nums = [s, r] := by
    have h := hok.1
    match nums, h with
    | [s, r], _ => exact ⟨s, r, rfl⟩
  subst hnum
  have HOK := Lib.hid hok
  have HU0 := Lib.hid (refU32_any s (hok.2.2 s (by simp)))
  have HU1 := Lib.hid (refU32_any r (hok.2.2 r (by simp)))
  have HLEN := Lib.hid (show (encB 2 (MsgM.mk [s, r] bs)).length = 92 from encB_length hok)
  have hfl := refEnc2_parts s r bs hok.2.1
  obtain ⟨cm, hcm⟩ : ∃ z, (MsgM.mk [s, r] bs).cells.toArray = z := ⟨_, rfl⟩
  have HM := Lib.hid (show Lows w [blkL w.heap.size 32 (MsgM.mk [s, r] bs).cells] (w.alloc (.cells cm 32)) from (Lows.nil w).alloc 32 cm (MsgM.mk [s, r] bs).cells hcm.symm)
  rw [hcm]
  have HFL := Lib.hid (show ([(msHead 2 : List UInt8), (littleL s 4 : List UInt8), (littleL r 4 : List UInt8), ((bs.drop 0).take 32 : List UInt8), ((bs.drop 32).take 16 : List UInt8), ((bs.drop 48).take 16 : List UInt8), ((bs.drop 64).take 16 : List UInt8)] : List (List UInt8)).flatten = encB 2 (MsgM.mk [s, r] bs) from by
    rw [← hfl]; simp only [List.flatten_cons, List.flatten_nil, List.append_nil])
  clear hok hfl hcm
  go_enter Try.func12, Try.ntmps12
  go_upto_region 1 with fail
  generalize w.alloc (.cells cm 32) = w1 at HM ⊢
  refine wp_region_held_drew (S := fun W' => Lows w [blkL w.heap.size 32 (MsgM.mk [s, r] bs).cells] W') (by kernel_rfl) (HM.out.drew) (fun hHeld => ?_)
  replace HM := Lib.hid HM.out.drew
  generalize w1.drew = wd1 at HM hHeld ⊢
  refine take_first (v := ?_) 1 rfl (by kernel_rfl) (by kernel_rfl) (by kernel_rfl) (fun _ _ _ h => h) (Or.inl ⟨by rfl, ?_⟩) (by assumption) ?_
  rotate_left
  · (intro w hSw; (try dsimp only at hSw); go_simp; try with_reducible rfl)
  (try simp only [Act.put, List.setIfInBounds_toArray, List.set_cons_zero, List.set_cons_succ])
  refine take_first (v := ?_) 2 rfl (by kernel_rfl) (by kernel_rfl) (by kernel_rfl) (fun _ _ _ h => h) (Or.inl ⟨by rfl, ?_⟩) (by assumption) ?_
  rotate_left
  · (intro w hSw; (try dsimp only at hSw); have fl := msg_num (Lows.blk hSw 0 rfl) 0 s rfl; go_simp; try with_reducible rfl)
  (try simp only [Act.put, List.setIfInBounds_toArray, List.set_cons_zero, List.set_cons_succ])
  refine take_first (v := ?_) 4 rfl (by kernel_rfl) (by kernel_rfl) (by kernel_rfl) (fun _ _ _ h => h) (Or.inl ⟨by rfl, ?_⟩) (by assumption) ?_
  rotate_left
  · (intro w hSw; (try dsimp only at hSw); go_simp; try with_reducible rfl)
  (try simp only [Act.put, List.setIfInBounds_toArray, List.set_cons_zero, List.set_cons_succ])
  refine take_first (v := ?_) 5 rfl (by kernel_rfl) (by kernel_rfl) (by kernel_rfl) (fun _ _ _ h => h) (Or.inl ⟨by rfl, ?_⟩) (by assumption) ?_
  rotate_left
  · (intro w hSw; (try dsimp only at hSw); have fl := msg_num (Lows.blk hSw 0 rfl) 1 r rfl; go_simp; try with_reducible rfl)
  (try simp only [Act.put, List.setIfInBounds_toArray, List.set_cons_zero, List.set_cons_succ])
  refine take_first (v := ?_) 7 rfl (by kernel_rfl) (by kernel_rfl) (by kernel_rfl) (fun _ _ _ h => h) (Or.inl ⟨by rfl, ?_⟩) (by assumption) ?_
  rotate_left
  · (intro w hSw; (try dsimp only at hSw); go_simp; try with_reducible rfl)
  (try simp only [Act.put, List.setIfInBounds_toArray, List.set_cons_zero, List.set_cons_succ])
  refine take_first (v := ?_) 8 rfl (by kernel_rfl) (by kernel_rfl) (by kernel_rfl) (fun _ _ _ h => h) (Or.inl ⟨by rfl, ?_⟩) (by assumption) ?_
  rotate_left
  · (intro w hSw; (try dsimp only at hSw); go_simp; try with_reducible rfl)
  (try simp only [Act.put, List.setIfInBounds_toArray, List.set_cons_zero, List.set_cons_succ])
  refine take_first (v := ?_) 9 rfl (by kernel_rfl) (by kernel_rfl) (by kernel_rfl) (fun _ _ _ h => h) (Or.inl ⟨by rfl, ?_⟩) (by assumption) ?_
  rotate_left
  · (intro w hSw; (try dsimp only at hSw); go_simp; try with_reducible rfl)
  (try simp only [Act.put, List.setIfInBounds_toArray, List.set_cons_zero, List.set_cons_succ])
  refine take_first (v := ?_) 10 rfl (by kernel_rfl) (by kernel_rfl) (by kernel_rfl) (fun _ _ _ h => h) (Or.inl ⟨by rfl, ?_⟩) (by assumption) ?_
  rotate_left
  · (intro w hSw; (try dsimp only at hSw); go_simp; try with_reducible rfl)
  (try simp only [Act.put, List.setIfInBounds_toArray, List.set_cons_zero, List.set_cons_succ])
  refine take_first (v := ?_) 11 rfl (by kernel_rfl) (by kernel_rfl) (by kernel_rfl) (fun _ _ _ h => h) (Or.inl ⟨by rfl, ?_⟩) (by assumption) ?_
  rotate_left
  · (intro w hSw; (try dsimp only at hSw); go_simp; try with_reducible rfl)
  (try simp only [Act.put, List.setIfInBounds_toArray, List.set_cons_zero, List.set_cons_succ])
  refine take_first (v := ?_) 12 rfl (by kernel_rfl) (by kernel_rfl) (by kernel_rfl) (fun _ _ _ h => h) (Or.inl ⟨by rfl, ?_⟩) (by assumption) ?_
  rotate_left
  · (intro w hSw; (try dsimp only at hSw); go_simp; try with_reducible rfl)
  (try simp only [Act.put, List.setIfInBounds_toArray, List.set_cons_zero, List.set_cons_succ])
  refine take_first (v := ?_) 13 rfl (by kernel_rfl) (by kernel_rfl) (by kernel_rfl) (fun _ _ _ h => h) (Or.inl ⟨by rfl, ?_⟩) (by assumption) ?_
  rotate_left
  · (intro w hSw; (try dsimp only at hSw); go_simp; try with_reducible rfl)
  (try simp only [Act.put, List.setIfInBounds_toArray, List.set_cons_zero, List.set_cons_succ])
  refine take_first (v := ?_) 14 rfl (by kernel_rfl) (by kernel_rfl) (by kernel_rfl) (fun _ _ _ h => h) (Or.inl ⟨by rfl, ?_⟩) (by assumption) ?_
  rotate_left
  · (intro w hSw; (try dsimp only at hSw); go_simp; try with_reducible rfl)
  (try simp only [Act.put, List.setIfInBounds_toArray, List.set_cons_zero, List.set_cons_succ])
  refine step_two 0 3 rfl rfl (by kernel_rfl) (fun K hK => ?_) (fun K hK => ?_)
  · clear hHeld
    go_simp
    have hm9 := HM.out.alloc 5 #[.int .u8 2, .int .u8 0, .int .u8 0, .int .u8 0] ((msHead 2).map u8v) rfl
    generalize wd1.alloc (.cells #[.int .u8 2, .int .u8 0, .int .u8 0, .int .u8 0] 5) = wy2 at hm9 ⊢
    generalize wd1.heap.size = g4 at hm9 ⊢
    replace HM := Lib.hid (show Lows w [rdL (some ⟨g4, 0, none⟩) 4 (msHead 2), blkL w.heap.size 32 (MsgM.mk [s, r] bs).cells] wy2 from (hm9.cons (rdL (some ⟨g4, 0, none⟩) 4 (msHead 2)) (blk_all (hm9.blk 0 rfl) rfl)).tail 1)
    clear hm9
    refine hK.out _ _ (HM.out.tail 0) (fun hHeld => ?_)
    clear hK K
    (try simp only [Act.put, List.setIfInBounds_toArray, List.set_cons_zero, List.set_cons_succ])
    refine wpAnyH_stronger (T := fun W' => Lows w [rdL (some ⟨g4, 0, none⟩) 4 (msHead 2), blkL w.heap.size 32 (MsgM.mk [s, r] bs).cells] W') (fun _ h' => (h'.tail 0)) _ _ _ _ ?_
    replace hHeld := HM.out
    refine step_one 3 rfl (by kernel_rfl) (fun K hK => ?_)
    clear hHeld
    go_simp
    refine (HU0.out _).mono ?_
    rintro e wy3 ⟨A0, c0, rfl, hr, hb⟩
    replace HM := Lib.hid (show Lows w [rdL A0 4 (littleL s 4), rdL (some ⟨g4, 0, none⟩) 4 (msHead 2), blkL w.heap.size 32 (MsgM.mk [s, r] bs).cells] wy3 from (HM.out.below hb).cons (rdL A0 4 (littleL s 4)) (hr))
    clear hb
    go_wp2_with fail
    refine hK.out _ _ (HM.out.tail 0) (fun hHeld => ?_)
    clear hK K
    (try simp only [Act.put, List.setIfInBounds_toArray, List.set_cons_zero, List.set_cons_succ])
    refine wpAnyH_stronger (T := fun W' => Lows w [rdL A0 4 (littleL s 4), rdL (some ⟨g4, 0, none⟩) 4 (msHead 2), blkL w.heap.size 32 (MsgM.mk [s, r] bs).cells] W') (fun _ h' => (h'.tail 0)) _ _ _ _ ?_
    replace hHeld := HM.out
    refine step_one 6 rfl (by kernel_rfl) (fun K hK => ?_)
    clear hHeld
    go_simp
    refine (HU1.out _).mono ?_
    rintro e wy4 ⟨A1, c1, rfl, hr, hb⟩
    replace HM := Lib.hid (show Lows w [rdL A1 4 (littleL r 4), rdL A0 4 (littleL s 4), rdL (some ⟨g4, 0, none⟩) 4 (msHead 2), blkL w.heap.size 32 (MsgM.mk [s, r] bs).cells] wy4 from (HM.out.below hb).cons (rdL A1 4 (littleL r 4)) (hr))
    clear hb
    go_wp2_with fail
    refine hK.out _ _ (HM.out.tail 0) (fun hHeld => ?_)
    clear hK K
    (try simp only [Act.put, List.setIfInBounds_toArray, List.set_cons_zero, List.set_cons_succ])
    refine wpAnyH_stronger (T := fun W' => Lows w [rdL A1 4 (littleL r 4), rdL A0 4 (littleL s 4), rdL (some ⟨g4, 0, none⟩) 4 (msHead 2), blkL w.heap.size 32 (MsgM.mk [s, r] bs).cells] W') (fun _ h' => (h'.tail 0)) _ _ _ _ ?_
    replace hHeld := HM.out
    refine step_one 15 rfl (by kernel_rfl) (fun K hK => ?_)
    clear hHeld
    go_simp
    have hm9 := HM.out.alloc 38 #[.slice (some ⟨g4, 0, none⟩) 4 4, .slice A0 4 c0, .slice A1 4 c1, .slice (some ⟨w.heap.size, 2, none⟩) 32 32, .slice (some ⟨w.heap.size, 34, none⟩) 16 16, .slice (some ⟨w.heap.size, 50, none⟩) 16 16, .slice (some ⟨w.heap.size, 66, none⟩) 16 16] ([.slice (some ⟨g4, 0, none⟩) 4 4, .slice A0 4 c0, .slice A1 4 c1, .slice (some ⟨w.heap.size, 2, none⟩) 32 32, .slice (some ⟨w.heap.size, 34, none⟩) 16 16, .slice (some ⟨w.heap.size, 50, none⟩) 16 16, .slice (some ⟨w.heap.size, 66, none⟩) 16 16]) rfl
    generalize wy4.alloc (.cells #[.slice (some ⟨g4, 0, none⟩) 4 4, .slice A0 4 c0, .slice A1 4 c1, .slice (some ⟨w.heap.size, 2, none⟩) 32 32, .slice (some ⟨w.heap.size, 34, none⟩) 16 16, .slice (some ⟨w.heap.size, 50, none⟩) 16 16, .slice (some ⟨w.heap.size, 66, none⟩) 16 16] 38) = wy5 at hm9 ⊢
    generalize wy4.heap.size = g7 at hm9 ⊢
    replace HM := Lib.hid (show Lows w [blkL g7 38 ([.slice (some ⟨g4, 0, none⟩) 4 4, .slice A0 4 c0, .slice A1 4 c1, .slice (some ⟨w.heap.size, 2, none⟩) 32 32, .slice (some ⟨w.heap.size, 34, none⟩) 16 16, .slice (some ⟨w.heap.size, 50, none⟩) 16 16, .slice (some ⟨w.heap.size, 66, none⟩) 16 16]), rdL A1 4 (littleL r 4), rdL A0 4 (littleL s 4), rdL (some ⟨g4, 0, none⟩) 4 (msHead 2), blkL w.heap.size 32 (MsgM.mk [s, r] bs).cells] wy5 from hm9)
    clear hm9
    refine hK.out _ _ (HM.out.tail 0) (fun hHeld => ?_)
    clear hK K
    (try simp only [Act.put, List.setIfInBounds_toArray, List.set_cons_zero, List.set_cons_succ])
    refine wpAnyH_stronger (T := fun W' => Lows w [blkL g7 38 ([.slice (some ⟨g4, 0, none⟩) 4 4, .slice A0 4 c0, .slice A1 4 c1, .slice (some ⟨w.heap.size, 2, none⟩) 32 32, .slice (some ⟨w.heap.size, 34, none⟩) 16 16, .slice (some ⟨w.heap.size, 50, none⟩) 16 16, .slice (some ⟨w.heap.size, 66, none⟩) 16 16]), rdL A1 4 (littleL r 4), rdL A0 4 (littleL s 4), rdL (some ⟨g4, 0, none⟩) 4 (msHead 2), blkL w.heap.size 32 (MsgM.mk [s, r] bs).cells] W') (fun _ h' => (h'.tail 0)) _ _ _ _ ?_
    replace hHeld := HM.out
    refine step_one 16 rfl (by kernel_rfl) (fun K hK => ?_)
    clear hHeld
    go_simp
    refine (refJoin_rows g7 38 [⟨(some ⟨g4, 0, none⟩), 4, 4, msHead 2⟩, ⟨A0, 4, c0, littleL s 4⟩, ⟨A1, 4, c1, littleL r 4⟩, ⟨(some ⟨w.heap.size, 2, none⟩), 32, 32, (bs.drop 0).take 32⟩, ⟨(some ⟨w.heap.size, 34, none⟩), 16, 16, (bs.drop 32).take 16⟩, ⟨(some ⟨w.heap.size, 50, none⟩), 16, 16, (bs.drop 48).take 16⟩, ⟨(some ⟨w.heap.size, 66, none⟩), 16, 16, (bs.drop 64).take 16⟩] 7 rfl (by omega) (encB 2 (MsgM.mk [s, r] bs)) HFL.out 92 HLEN.out (by omega) _ (HM.out.blk 0 rfl) (by
      intro p hp
      simp only [List.mem_cons, List.not_mem_nil, or_false] at hp
      rcases hp with rfl | rfl | rfl | rfl | rfl | rfl | rfl
      · exact HM.out.rd 3 rfl
      · exact HM.out.rd 2 rfl
      · exact HM.out.rd 1 rfl
      · exact msg_rd (HM.out.blk 4 rfl) HOK.out 2 0 32 rfl (by decide)
      · exact msg_rd (HM.out.blk 4 rfl) HOK.out 34 32 16 rfl (by decide)
      · exact msg_rd (HM.out.blk 4 rfl) HOK.out 50 48 16 rfl (by decide)
      · exact msg_rd (HM.out.blk 4 rfl) HOK.out 66 64 16 rfl (by decide)
      )).mono ?_
    rintro e wy6 ⟨A9, c9, rfl, hc1, hc2, hr, hb⟩
    have HRES := Lib.hid (And.intro hc1 (And.intro hc2 (And.intro hr (HM.out.below hb).bel)))
    replace HM := Lib.hid (show Lows w [blkL g7 38 ([.slice (some ⟨g4, 0, none⟩) 4 4, .slice A0 4 c0, .slice A1 4 c1, .slice (some ⟨w.heap.size, 2, none⟩) 32 32, .slice (some ⟨w.heap.size, 34, none⟩) 16 16, .slice (some ⟨w.heap.size, 50, none⟩) 16 16, .slice (some ⟨w.heap.size, 66, none⟩) 16 16]), rdL A1 4 (littleL r 4), rdL A0 4 (littleL s 4), rdL (some ⟨g4, 0, none⟩) 4 (msHead 2), blkL w.heap.size 32 (MsgM.mk [s, r] bs).cells] wy6 from HM.out.below hb)
    clear hr hb hc1 hc2
    go_wp2_with fail
    refine hK.out _ _ (HM.out) (fun hHeld => ?_)
    clear hK K
    (try simp only [Act.put, List.setIfInBounds_toArray, List.set_cons_zero, List.set_cons_succ])
    refine take_first (v := ?_) 17 rfl (by kernel_rfl) (by kernel_rfl) (by kernel_rfl) (fun _ _ _ h => h) (Or.inl ⟨by rfl, ?_⟩) (by assumption) ?_
    rotate_left
    · (intro w hSw; (try dsimp only at hSw); go_simp; try with_reducible rfl)
    (try simp only [Act.put, List.setIfInBounds_toArray, List.set_cons_zero, List.set_cons_succ])
    refine wpAnyH_done (by kernel_rfl) ?_ _
    clear HM hHeld
    go_wp2_with fail
    go_ret
    exact ⟨A9, c9, rfl, HRES.out.1, HRES.out.2.1, HRES.out.2.2.1, HRES.out.2.2.2⟩
  · clear hHeld
    go_simp
    refine (HU0.out _).mono ?_
    rintro e wy2 ⟨A0, c0, rfl, hr, hb⟩
    replace HM := Lib.hid (show Lows w [rdL A0 4 (littleL s 4), blkL w.heap.size 32 (MsgM.mk [s, r] bs).cells] wy2 from (HM.out.below hb).cons (rdL A0 4 (littleL s 4)) (hr))
    clear hb
    go_wp2_with fail
    refine hK.out _ _ (HM.out.tail 0) (fun hHeld => ?_)
    clear hK K
    (try simp only [Act.put, List.setIfInBounds_toArray, List.set_cons_zero, List.set_cons_succ])
    refine wpAnyH_stronger (T := fun W' => Lows w [rdL A0 4 (littleL s 4), blkL w.heap.size 32 (MsgM.mk [s, r] bs).cells] W') (fun _ h' => (h'.tail 0)) _ _ _ _ ?_
    replace hHeld := HM.out
    refine step_two 0 6 rfl rfl (by kernel_rfl) (fun K hK => ?_) (fun K hK => ?_)
    · clear hHeld
      go_simp
      have hm9 := HM.out.alloc 5 #[.int .u8 2, .int .u8 0, .int .u8 0, .int .u8 0] ((msHead 2).map u8v) rfl
      generalize wy2.alloc (.cells #[.int .u8 2, .int .u8 0, .int .u8 0, .int .u8 0] 5) = wy3 at hm9 ⊢
      generalize wy2.heap.size = g4 at hm9 ⊢
      replace HM := Lib.hid (show Lows w [rdL (some ⟨g4, 0, none⟩) 4 (msHead 2), rdL A0 4 (littleL s 4), blkL w.heap.size 32 (MsgM.mk [s, r] bs).cells] wy3 from (hm9.cons (rdL (some ⟨g4, 0, none⟩) 4 (msHead 2)) (blk_all (hm9.blk 0 rfl) rfl)).tail 1)
      clear hm9
      refine hK.out _ _ (HM.out.tail 0) (fun hHeld => ?_)
      clear hK K
      (try simp only [Act.put, List.setIfInBounds_toArray, List.set_cons_zero, List.set_cons_succ])
      refine wpAnyH_stronger (T := fun W' => Lows w [rdL (some ⟨g4, 0, none⟩) 4 (msHead 2), rdL A0 4 (littleL s 4), blkL w.heap.size 32 (MsgM.mk [s, r] bs).cells] W') (fun _ h' => (h'.tail 0)) _ _ _ _ ?_
      replace hHeld := HM.out
      refine step_one 6 rfl (by kernel_rfl) (fun K hK => ?_)
      clear hHeld
      go_simp
      refine (HU1.out _).mono ?_
      rintro e wy4 ⟨A1, c1, rfl, hr, hb⟩
      replace HM := Lib.hid (show Lows w [rdL A1 4 (littleL r 4), rdL (some ⟨g4, 0, none⟩) 4 (msHead 2), rdL A0 4 (littleL s 4), blkL w.heap.size 32 (MsgM.mk [s, r] bs).cells] wy4 from (HM.out.below hb).cons (rdL A1 4 (littleL r 4)) (hr))
      clear hb
      go_wp2_with fail
      refine hK.out _ _ (HM.out.tail 0) (fun hHeld => ?_)
      clear hK K
      (try simp only [Act.put, List.setIfInBounds_toArray, List.set_cons_zero, List.set_cons_succ])
      refine wpAnyH_stronger (T := fun W' => Lows w [rdL A1 4 (littleL r 4), rdL (some ⟨g4, 0, none⟩) 4 (msHead 2), rdL A0 4 (littleL s 4), blkL w.heap.size 32 (MsgM.mk [s, r] bs).cells] W') (fun _ h' => (h'.tail 0)) _ _ _ _ ?_
      replace hHeld := HM.out
      refine step_one 15 rfl (by kernel_rfl) (fun K hK => ?_)
      clear hHeld
      go_simp
      have hm9 := HM.out.alloc 38 #[.slice (some ⟨g4, 0, none⟩) 4 4, .slice A0 4 c0, .slice A1 4 c1, .slice (some ⟨w.heap.size, 2, none⟩) 32 32, .slice (some ⟨w.heap.size, 34, none⟩) 16 16, .slice (some ⟨w.heap.size, 50, none⟩) 16 16, .slice (some ⟨w.heap.size, 66, none⟩) 16 16] ([.slice (some ⟨g4, 0, none⟩) 4 4, .slice A0 4 c0, .slice A1 4 c1, .slice (some ⟨w.heap.size, 2, none⟩) 32 32, .slice (some ⟨w.heap.size, 34, none⟩) 16 16, .slice (some ⟨w.heap.size, 50, none⟩) 16 16, .slice (some ⟨w.heap.size, 66, none⟩) 16 16]) rfl
      generalize wy4.alloc (.cells #[.slice (some ⟨g4, 0, none⟩) 4 4, .slice A0 4 c0, .slice A1 4 c1, .slice (some ⟨w.heap.size, 2, none⟩) 32 32, .slice (some ⟨w.heap.size, 34, none⟩) 16 16, .slice (some ⟨w.heap.size, 50, none⟩) 16 16, .slice (some ⟨w.heap.size, 66, none⟩) 16 16] 38) = wy5 at hm9 ⊢
      generalize wy4.heap.size = g7 at hm9 ⊢
      replace HM := Lib.hid (show Lows w [blkL g7 38 ([.slice (some ⟨g4, 0, none⟩) 4 4, .slice A0 4 c0, .slice A1 4 c1, .slice (some ⟨w.heap.size, 2, none⟩) 32 32, .slice (some ⟨w.heap.size, 34, none⟩) 16 16, .slice (some ⟨w.heap.size, 50, none⟩) 16 16, .slice (some ⟨w.heap.size, 66, none⟩) 16 16]), rdL A1 4 (littleL r 4), rdL (some ⟨g4, 0, none⟩) 4 (msHead 2), rdL A0 4 (littleL s 4), blkL w.heap.size 32 (MsgM.mk [s, r] bs).cells] wy5 from hm9)
      clear hm9
      refine hK.out _ _ (HM.out.tail 0) (fun hHeld => ?_)
      clear hK K
      (try simp only [Act.put, List.setIfInBounds_toArray, List.set_cons_zero, List.set_cons_succ])
      refine wpAnyH_stronger (T := fun W' => Lows w [blkL g7 38 ([.slice (some ⟨g4, 0, none⟩) 4 4, .slice A0 4 c0, .slice A1 4 c1, .slice (some ⟨w.heap.size, 2, none⟩) 32 32, .slice (some ⟨w.heap.size, 34, none⟩) 16 16, .slice (some ⟨w.heap.size, 50, none⟩) 16 16, .slice (some ⟨w.heap.size, 66, none⟩) 16 16]), rdL A1 4 (littleL r 4), rdL (some ⟨g4, 0, none⟩) 4 (msHead 2), rdL A0 4 (littleL s 4), blkL w.heap.size 32 (MsgM.mk [s, r] bs).cells] W') (fun _ h' => (h'.tail 0)) _ _ _ _ ?_
      replace hHeld := HM.out
      refine step_one 16 rfl (by kernel_rfl) (fun K hK => ?_)
      clear hHeld
      go_simp
      refine (refJoin_rows g7 38 [⟨(some ⟨g4, 0, none⟩), 4, 4, msHead 2⟩, ⟨A0, 4, c0, littleL s 4⟩, ⟨A1, 4, c1, littleL r 4⟩, ⟨(some ⟨w.heap.size, 2, none⟩), 32, 32, (bs.drop 0).take 32⟩, ⟨(some ⟨w.heap.size, 34, none⟩), 16, 16, (bs.drop 32).take 16⟩, ⟨(some ⟨w.heap.size, 50, none⟩), 16, 16, (bs.drop 48).take 16⟩, ⟨(some ⟨w.heap.size, 66, none⟩), 16, 16, (bs.drop 64).take 16⟩] 7 rfl (by omega) (encB 2 (MsgM.mk [s, r] bs)) HFL.out 92 HLEN.out (by omega) _ (HM.out.blk 0 rfl) (by
        intro p hp
        simp only [List.mem_cons, List.not_mem_nil, or_false] at hp
        rcases hp with rfl | rfl | rfl | rfl | rfl | rfl | rfl
        · exact HM.out.rd 2 rfl
        · exact HM.out.rd 3 rfl
        · exact HM.out.rd 1 rfl
        · exact msg_rd (HM.out.blk 4 rfl) HOK.out 2 0 32 rfl (by decide)
        · exact msg_rd (HM.out.blk 4 rfl) HOK.out 34 32 16 rfl (by decide)
        · exact msg_rd (HM.out.blk 4 rfl) HOK.out 50 48 16 rfl (by decide)
        · exact msg_rd (HM.out.blk 4 rfl) HOK.out 66 64 16 rfl (by decide)
        )).mono ?_
      rintro e wy6 ⟨A9, c9, rfl, hc1, hc2, hr, hb⟩
      have HRES := Lib.hid (And.intro hc1 (And.intro hc2 (And.intro hr (HM.out.below hb).bel)))
      replace HM := Lib.hid (show Lows w [blkL g7 38 ([.slice (some ⟨g4, 0, none⟩) 4 4, .slice A0 4 c0, .slice A1 4 c1, .slice (some ⟨w.heap.size, 2, none⟩) 32 32, .slice (some ⟨w.heap.size, 34, none⟩) 16 16, .slice (some ⟨w.heap.size, 50, none⟩) 16 16, .slice (some ⟨w.heap.size, 66, none⟩) 16 16]), rdL A1 4 (littleL r 4), rdL (some ⟨g4, 0, none⟩) 4 (msHead 2), rdL A0 4 (littleL s 4), blkL w.heap.size 32 (MsgM.mk [s, r] bs).cells] wy6 from HM.out.below hb)
      clear hr hb hc1 hc2
      go_wp2_with fail
      refine hK.out _ _ (HM.out) (fun hHeld => ?_)
      clear hK K
      (try simp only [Act.put, List.setIfInBounds_toArray, List.set_cons_zero, List.set_cons_succ])
      refine take_first (v := ?_) 17 rfl (by kernel_rfl) (by kernel_rfl) (by kernel_rfl) (fun _ _ _ h => h) (Or.inl ⟨by rfl, ?_⟩) (by assumption) ?_
      rotate_left
      · (intro w hSw; (try dsimp only at hSw); go_simp; try with_reducible rfl)
      (try simp only [Act.put, List.setIfInBounds_toArray, List.set_cons_zero, List.set_cons_succ])
      refine wpAnyH_done (by kernel_rfl) ?_ _
      clear HM hHeld
      go_wp2_with fail
      go_ret
      exact ⟨A9, c9, rfl, HRES.out.1, HRES.out.2.1, HRES.out.2.2.1, HRES.out.2.2.2⟩
    · clear hHeld
      go_simp
      refine (HU1.out _).mono ?_
      rintro e wy3 ⟨A1, c1, rfl, hr, hb⟩
      replace HM := Lib.hid (show Lows w [rdL A1 4 (littleL r 4), rdL A0 4 (littleL s 4), blkL w.heap.size 32 (MsgM.mk [s, r] bs).cells] wy3 from (HM.out.below hb).cons (rdL A1 4 (littleL r 4)) (hr))
      clear hb
      go_wp2_with fail
      refine hK.out _ _ (HM.out.tail 0) (fun hHeld => ?_)
      clear hK K
      (try simp only [Act.put, List.setIfInBounds_toArray, List.set_cons_zero, List.set_cons_succ])
      refine wpAnyH_stronger (T := fun W' => Lows w [rdL A1 4 (littleL r 4), rdL A0 4 (littleL s 4), blkL w.heap.size 32 (MsgM.mk [s, r] bs).cells] W') (fun _ h' => (h'.tail 0)) _ _ _ _ ?_
      replace hHeld := HM.out
      refine step_one 0 rfl (by kernel_rfl) (fun K hK => ?_)
      clear hHeld
      go_simp
      have hm9 := HM.out.alloc 5 #[.int .u8 2, .int .u8 0, .int .u8 0, .int .u8 0] ((msHead 2).map u8v) rfl
      generalize wy3.alloc (.cells #[.int .u8 2, .int .u8 0, .int .u8 0, .int .u8 0] 5) = wy4 at hm9 ⊢
      generalize wy3.heap.size = g4 at hm9 ⊢
      replace HM := Lib.hid (show Lows w [rdL (some ⟨g4, 0, none⟩) 4 (msHead 2), rdL A1 4 (littleL r 4), rdL A0 4 (littleL s 4), blkL w.heap.size 32 (MsgM.mk [s, r] bs).cells] wy4 from (hm9.cons (rdL (some ⟨g4, 0, none⟩) 4 (msHead 2)) (blk_all (hm9.blk 0 rfl) rfl)).tail 1)
      clear hm9
      refine hK.out _ _ (HM.out.tail 0) (fun hHeld => ?_)
      clear hK K
      (try simp only [Act.put, List.setIfInBounds_toArray, List.set_cons_zero, List.set_cons_succ])
      refine wpAnyH_stronger (T := fun W' => Lows w [rdL (some ⟨g4, 0, none⟩) 4 (msHead 2), rdL A1 4 (littleL r 4), rdL A0 4 (littleL s 4), blkL w.heap.size 32 (MsgM.mk [s, r] bs).cells] W') (fun _ h' => (h'.tail 0)) _ _ _ _ ?_
      replace hHeld := HM.out
      refine step_one 15 rfl (by kernel_rfl) (fun K hK => ?_)
      clear hHeld
      go_simp
      have hm9 := HM.out.alloc 38 #[.slice (some ⟨g4, 0, none⟩) 4 4, .slice A0 4 c0, .slice A1 4 c1, .slice (some ⟨w.heap.size, 2, none⟩) 32 32, .slice (some ⟨w.heap.size, 34, none⟩) 16 16, .slice (some ⟨w.heap.size, 50, none⟩) 16 16, .slice (some ⟨w.heap.size, 66, none⟩) 16 16] ([.slice (some ⟨g4, 0, none⟩) 4 4, .slice A0 4 c0, .slice A1 4 c1, .slice (some ⟨w.heap.size, 2, none⟩) 32 32, .slice (some ⟨w.heap.size, 34, none⟩) 16 16, .slice (some ⟨w.heap.size, 50, none⟩) 16 16, .slice (some ⟨w.heap.size, 66, none⟩) 16 16]) rfl
      generalize wy4.alloc (.cells #[.slice (some ⟨g4, 0, none⟩) 4 4, .slice A0 4 c0, .slice A1 4 c1, .slice (some ⟨w.heap.size, 2, none⟩) 32 32, .slice (some ⟨w.heap.size, 34, none⟩) 16 16, .slice (some ⟨w.heap.size, 50, none⟩) 16 16, .slice (some ⟨w.heap.size, 66, none⟩) 16 16] 38) = wy5 at hm9 ⊢
      generalize wy4.heap.size = g7 at hm9 ⊢
      replace HM := Lib.hid (show Lows w [blkL g7 38 ([.slice (some ⟨g4, 0, none⟩) 4 4, .slice A0 4 c0, .slice A1 4 c1, .slice (some ⟨w.heap.size, 2, none⟩) 32 32, .slice (some ⟨w.heap.size, 34, none⟩) 16 16, .slice (some ⟨w.heap.size, 50, none⟩) 16 16, .slice (some ⟨w.heap.size, 66, none⟩) 16 16]), rdL (some ⟨g4, 0, none⟩) 4 (msHead 2), rdL A1 4 (littleL r 4), rdL A0 4 (littleL s 4), blkL w.heap.size 32 (MsgM.mk [s, r] bs).cells] wy5 from hm9)
      clear hm9
      refine hK.out _ _ (HM.out.tail 0) (fun hHeld => ?_)
      clear hK K
      (try simp only [Act.put, List.setIfInBounds_toArray, List.set_cons_zero, List.set_cons_succ])
      refine wpAnyH_stronger (T := fun W' => Lows w [blkL g7 38 ([.slice (some ⟨g4, 0, none⟩) 4 4, .slice A0 4 c0, .slice A1 4 c1, .slice (some ⟨w.heap.size, 2, none⟩) 32 32, .slice (some ⟨w.heap.size, 34, none⟩) 16 16, .slice (some ⟨w.heap.size, 50, none⟩) 16 16, .slice (some ⟨w.heap.size, 66, none⟩) 16 16]), rdL (some ⟨g4, 0, none⟩) 4 (msHead 2), rdL A1 4 (littleL r 4), rdL A0 4 (littleL s 4), blkL w.heap.size 32 (MsgM.mk [s, r] bs).cells] W') (fun _ h' => (h'.tail 0)) _ _ _ _ ?_
      replace hHeld := HM.out
      refine step_one 16 rfl (by kernel_rfl) (fun K hK => ?_)
      clear hHeld
      go_simp
      refine (refJoin_rows g7 38 [⟨(some ⟨g4, 0, none⟩), 4, 4, msHead 2⟩, ⟨A0, 4, c0, littleL s 4⟩, ⟨A1, 4, c1, littleL r 4⟩, ⟨(some ⟨w.heap.size, 2, none⟩), 32, 32, (bs.drop 0).take 32⟩, ⟨(some ⟨w.heap.size, 34, none⟩), 16, 16, (bs.drop 32).take 16⟩, ⟨(some ⟨w.heap.size, 50, none⟩), 16, 16, (bs.drop 48).take 16⟩, ⟨(some ⟨w.heap.size, 66, none⟩), 16, 16, (bs.drop 64).take 16⟩] 7 rfl (by omega) (encB 2 (MsgM.mk [s, r] bs)) HFL.out 92 HLEN.out (by omega) _ (HM.out.blk 0 rfl) (by
        intro p hp
        simp only [List.mem_cons, List.not_mem_nil, or_false] at hp
        rcases hp with rfl | rfl | rfl | rfl | rfl | rfl | rfl
        · exact HM.out.rd 1 rfl
        · exact HM.out.rd 3 rfl
        · exact HM.out.rd 2 rfl
        · exact msg_rd (HM.out.blk 4 rfl) HOK.out 2 0 32 rfl (by decide)
        · exact msg_rd (HM.out.blk 4 rfl) HOK.out 34 32 16 rfl (by decide)
        · exact msg_rd (HM.out.blk 4 rfl) HOK.out 50 48 16 rfl (by decide)
        · exact msg_rd (HM.out.blk 4 rfl) HOK.out 66 64 16 rfl (by decide)
        )).mono ?_
      rintro e wy6 ⟨A9, c9, rfl, hc1, hc2, hr, hb⟩
      have HRES := Lib.hid (And.intro hc1 (And.intro hc2 (And.intro hr (HM.out.below hb).bel)))
      replace HM := Lib.hid (show Lows w [blkL g7 38 ([.slice (some ⟨g4, 0, none⟩) 4 4, .slice A0 4 c0, .slice A1 4 c1, .slice (some ⟨w.heap.size, 2, none⟩) 32 32, .slice (some ⟨w.heap.size, 34, none⟩) 16 16, .slice (some ⟨w.heap.size, 50, none⟩) 16 16, .slice (some ⟨w.heap.size, 66, none⟩) 16 16]), rdL (some ⟨g4, 0, none⟩) 4 (msHead 2), rdL A1 4 (littleL r 4), rdL A0 4 (littleL s 4), blkL w.heap.size 32 (MsgM.mk [s, r] bs).cells] wy6 from HM.out.below hb)
      clear hr hb hc1 hc2
      go_wp2_with fail
      refine hK.out _ _ (HM.out) (fun hHeld => ?_)
      clear hK K
      (try simp only [Act.put, List.setIfInBounds_toArray, List.set_cons_zero, List.set_cons_succ])
      refine take_first (v := ?_) 17 rfl (by kernel_rfl) (by kernel_rfl) (by kernel_rfl) (fun _ _ _ h => h) (Or.inl ⟨by rfl, ?_⟩) (by assumption) ?_
      rotate_left
      · (intro w hSw; (try dsimp only at hSw); go_simp; try with_reducible rfl)
      (try simp only [Act.put, List.setIfInBounds_toArray, List.set_cons_zero, List.set_cons_succ])
      refine wpAnyH_done (by kernel_rfl) ?_ _
      clear HM hHeld
      go_wp2_with fail
      go_ret
      exact ⟨A9, c9, rfl, HRES.out.1, HRES.out.2.1, HRES.out.2.2.1, HRES.out.2.2.2⟩

theorem refEnc3_parts (s : Nat) (bs : List UInt8) (hb : bs.length = 56) : (msHead 3 ++ (littleL s 4 ++ ((bs.drop 0).take 24 ++ ((bs.drop 24).take 32)))) = encB 3 (MsgM.mk [s] bs) := by
  have e : (bs.drop 0).take 24 ++ ((bs.drop 24).take 32) = bs := by
    apply List.ext_getElem
    · simp only [List.length_append, List.length_take, List.length_drop]; omega
    · intro i h1 h2
      simp only [List.getElem_append, List.getElem_take, List.getElem_drop, List.length_take, List.length_drop]
      repeat' split
      all_goals (congr 1; omega)
  rw [e]
  simp only [encB, numsB, List.flatMap_cons, List.flatMap_nil, List.append_nil, List.append_assoc]
set_option maxRecDepth 100000 in
set_option maxHeartbeats 8000000 in
theorem refEnc3 : MsEncC 14 3 := by
  intro m0 hok w
  obtain ⟨nums, bs⟩ := m0
  obtain ⟨s, hnum⟩ : ∃ s, nums = [s] := by
    have h := hok.1
    match nums, h with
    | [s], _ => exact ⟨s, rfl⟩
  subst hnum
  have HOK := Lib.hid hok
  have HU0 := Lib.hid (refU32_any s (hok.2.2 s (by simp)))
  have HLEN := Lib.hid (show (encB 3 (MsgM.mk [s] bs)).length = 64 from encB_length hok)
  have hfl := refEnc3_parts s bs hok.2.1
  obtain ⟨cm, hcm⟩ : ∃ z, (MsgM.mk [s] bs).cells.toArray = z := ⟨_, rfl⟩
  have HM := Lib.hid (show Lows w [blkL w.heap.size 36 (MsgM.mk [s] bs).cells] (w.alloc (.cells cm 36)) from (Lows.nil w).alloc 36 cm (MsgM.mk [s] bs).cells hcm.symm)
  rw [hcm]
  have HFL := Lib.hid (show ([(msHead 3 : List UInt8), (littleL s 4 : List UInt8), ((bs.drop 0).take 24 : List UInt8), ((bs.drop 24).take 32 : List UInt8)] : List (List UInt8)).flatten = encB 3 (MsgM.mk [s] bs) from by
    rw [← hfl]; simp only [List.flatten_cons, List.flatten_nil, List.append_nil])
  clear hok hfl hcm
  go_enter Try.func14, Try.ntmps14
  go_upto_region 1 with fail
  generalize w.alloc (.cells cm 36) = w1 at HM ⊢
  refine wp_region_held_drew (S := fun W' => Lows w [blkL w.heap.size 36 (MsgM.mk [s] bs).cells] W') (by kernel_rfl) (HM.out.drew) (fun hHeld => ?_)
  replace HM := Lib.hid HM.out.drew
  generalize w1.drew = wd1 at HM hHeld ⊢
  refine take_first (v := ?_) 1 rfl (by kernel_rfl) (by kernel_rfl) (by kernel_rfl) (fun _ _ _ h => h) (Or.inl ⟨by rfl, ?_⟩) (by assumption) ?_
  rotate_left
  · (intro w hSw; (try dsimp only at hSw); go_simp; try with_reducible rfl)
  (try simp only [Act.put, List.setIfInBounds_toArray, List.set_cons_zero, List.set_cons_succ])
  refine take_first (v := ?_) 2 rfl (by kernel_rfl) (by kernel_rfl) (by kernel_rfl) (fun _ _ _ h => h) (Or.inl ⟨by rfl, ?_⟩) (by assumption) ?_
  rotate_left
  · (intro w hSw; (try dsimp only at hSw); have fl := msg_num (Lows.blk hSw 0 rfl) 0 s rfl; go_simp; try with_reducible rfl)
  (try simp only [Act.put, List.setIfInBounds_toArray, List.set_cons_zero, List.set_cons_succ])
  refine take_first (v := ?_) 4 rfl (by kernel_rfl) (by kernel_rfl) (by kernel_rfl) (fun _ _ _ h => h) (Or.inl ⟨by rfl, ?_⟩) (by assumption) ?_
  rotate_left
  · (intro w hSw; (try dsimp only at hSw); go_simp; try with_reducible rfl)
  (try simp only [Act.put, List.setIfInBounds_toArray, List.set_cons_zero, List.set_cons_succ])
  refine take_first (v := ?_) 5 rfl (by kernel_rfl) (by kernel_rfl) (by kernel_rfl) (fun _ _ _ h => h) (Or.inl ⟨by rfl, ?_⟩) (by assumption) ?_
  rotate_left
  · (intro w hSw; (try dsimp only at hSw); go_simp; try with_reducible rfl)
  (try simp only [Act.put, List.setIfInBounds_toArray, List.set_cons_zero, List.set_cons_succ])
  refine take_first (v := ?_) 6 rfl (by kernel_rfl) (by kernel_rfl) (by kernel_rfl) (fun _ _ _ h => h) (Or.inl ⟨by rfl, ?_⟩) (by assumption) ?_
  rotate_left
  · (intro w hSw; (try dsimp only at hSw); go_simp; try with_reducible rfl)
  (try simp only [Act.put, List.setIfInBounds_toArray, List.set_cons_zero, List.set_cons_succ])
  refine take_first (v := ?_) 7 rfl (by kernel_rfl) (by kernel_rfl) (by kernel_rfl) (fun _ _ _ h => h) (Or.inl ⟨by rfl, ?_⟩) (by assumption) ?_
  rotate_left
  · (intro w hSw; (try dsimp only at hSw); go_simp; try with_reducible rfl)
  (try simp only [Act.put, List.setIfInBounds_toArray, List.set_cons_zero, List.set_cons_succ])
  refine step_two 0 3 rfl rfl (by kernel_rfl) (fun K hK => ?_) (fun K hK => ?_)
  · clear hHeld
    go_simp
    have hm9 := HM.out.alloc 5 #[.int .u8 3, .int .u8 0, .int .u8 0, .int .u8 0] ((msHead 3).map u8v) rfl
    generalize wd1.alloc (.cells #[.int .u8 3, .int .u8 0, .int .u8 0, .int .u8 0] 5) = wy2 at hm9 ⊢
    generalize wd1.heap.size = g4 at hm9 ⊢
    replace HM := Lib.hid (show Lows w [rdL (some ⟨g4, 0, none⟩) 4 (msHead 3), blkL w.heap.size 36 (MsgM.mk [s] bs).cells] wy2 from (hm9.cons (rdL (some ⟨g4, 0, none⟩) 4 (msHead 3)) (blk_all (hm9.blk 0 rfl) rfl)).tail 1)
    clear hm9
    refine hK.out _ _ (HM.out.tail 0) (fun hHeld => ?_)
    clear hK K
    (try simp only [Act.put, List.setIfInBounds_toArray, List.set_cons_zero, List.set_cons_succ])
    refine wpAnyH_stronger (T := fun W' => Lows w [rdL (some ⟨g4, 0, none⟩) 4 (msHead 3), blkL w.heap.size 36 (MsgM.mk [s] bs).cells] W') (fun _ h' => (h'.tail 0)) _ _ _ _ ?_
    replace hHeld := HM.out
    refine step_one 3 rfl (by kernel_rfl) (fun K hK => ?_)
    clear hHeld
    go_simp
    refine (HU0.out _).mono ?_
    rintro e wy3 ⟨A0, c0, rfl, hr, hb⟩
    replace HM := Lib.hid (show Lows w [rdL A0 4 (littleL s 4), rdL (some ⟨g4, 0, none⟩) 4 (msHead 3), blkL w.heap.size 36 (MsgM.mk [s] bs).cells] wy3 from (HM.out.below hb).cons (rdL A0 4 (littleL s 4)) (hr))
    clear hb
    go_wp2_with fail
    refine hK.out _ _ (HM.out.tail 0) (fun hHeld => ?_)
    clear hK K
    (try simp only [Act.put, List.setIfInBounds_toArray, List.set_cons_zero, List.set_cons_succ])
    refine wpAnyH_stronger (T := fun W' => Lows w [rdL A0 4 (littleL s 4), rdL (some ⟨g4, 0, none⟩) 4 (msHead 3), blkL w.heap.size 36 (MsgM.mk [s] bs).cells] W') (fun _ h' => (h'.tail 0)) _ _ _ _ ?_
    replace hHeld := HM.out
    refine step_one 8 rfl (by kernel_rfl) (fun K hK => ?_)
    clear hHeld
    go_simp
    have hm9 := HM.out.alloc 38 #[.slice (some ⟨g4, 0, none⟩) 4 4, .slice A0 4 c0, .slice (some ⟨w.heap.size, 1, none⟩) 24 24, .slice (some ⟨w.heap.size, 25, none⟩) 32 32] ([.slice (some ⟨g4, 0, none⟩) 4 4, .slice A0 4 c0, .slice (some ⟨w.heap.size, 1, none⟩) 24 24, .slice (some ⟨w.heap.size, 25, none⟩) 32 32]) rfl
    generalize wy3.alloc (.cells #[.slice (some ⟨g4, 0, none⟩) 4 4, .slice A0 4 c0, .slice (some ⟨w.heap.size, 1, none⟩) 24 24, .slice (some ⟨w.heap.size, 25, none⟩) 32 32] 38) = wy4 at hm9 ⊢
    generalize wy3.heap.size = g7 at hm9 ⊢
    replace HM := Lib.hid (show Lows w [blkL g7 38 ([.slice (some ⟨g4, 0, none⟩) 4 4, .slice A0 4 c0, .slice (some ⟨w.heap.size, 1, none⟩) 24 24, .slice (some ⟨w.heap.size, 25, none⟩) 32 32]), rdL A0 4 (littleL s 4), rdL (some ⟨g4, 0, none⟩) 4 (msHead 3), blkL w.heap.size 36 (MsgM.mk [s] bs).cells] wy4 from hm9)
    clear hm9
    refine hK.out _ _ (HM.out.tail 0) (fun hHeld => ?_)
    clear hK K
    (try simp only [Act.put, List.setIfInBounds_toArray, List.set_cons_zero, List.set_cons_succ])
    refine wpAnyH_stronger (T := fun W' => Lows w [blkL g7 38 ([.slice (some ⟨g4, 0, none⟩) 4 4, .slice A0 4 c0, .slice (some ⟨w.heap.size, 1, none⟩) 24 24, .slice (some ⟨w.heap.size, 25, none⟩) 32 32]), rdL A0 4 (littleL s 4), rdL (some ⟨g4, 0, none⟩) 4 (msHead 3), blkL w.heap.size 36 (MsgM.mk [s] bs).cells] W') (fun _ h' => (h'.tail 0)) _ _ _ _ ?_
    replace hHeld := HM.out
    refine step_one 9 rfl (by kernel_rfl) (fun K hK => ?_)
    clear hHeld
    go_simp
    refine (refJoin_rows g7 38 [⟨(some ⟨g4, 0, none⟩), 4, 4, msHead 3⟩, ⟨A0, 4, c0, littleL s 4⟩, ⟨(some ⟨w.heap.size, 1, none⟩), 24, 24, (bs.drop 0).take 24⟩, ⟨(some ⟨w.heap.size, 25, none⟩), 32, 32, (bs.drop 24).take 32⟩] 4 rfl (by omega) (encB 3 (MsgM.mk [s] bs)) HFL.out 64 HLEN.out (by omega) _ (HM.out.blk 0 rfl) (by
      intro p hp
      simp only [List.mem_cons, List.not_mem_nil, or_false] at hp
      rcases hp with rfl | rfl | rfl | rfl
      · exact HM.out.rd 2 rfl
      · exact HM.out.rd 1 rfl
      · exact msg_rd (HM.out.blk 3 rfl) HOK.out 1 0 24 rfl (by decide)
      · exact msg_rd (HM.out.blk 3 rfl) HOK.out 25 24 32 rfl (by decide)
      )).mono ?_
    rintro e wy5 ⟨A9, c9, rfl, hc1, hc2, hr, hb⟩
    have HRES := Lib.hid (And.intro hc1 (And.intro hc2 (And.intro hr (HM.out.below hb).bel)))
    replace HM := Lib.hid (show Lows w [blkL g7 38 ([.slice (some ⟨g4, 0, none⟩) 4 4, .slice A0 4 c0, .slice (some ⟨w.heap.size, 1, none⟩) 24 24, .slice (some ⟨w.heap.size, 25, none⟩) 32 32]), rdL A0 4 (littleL s 4), rdL (some ⟨g4, 0, none⟩) 4 (msHead 3), blkL w.heap.size 36 (MsgM.mk [s] bs).cells] wy5 from HM.out.below hb)
    clear hr hb hc1 hc2
    go_wp2_with fail
    refine hK.out _ _ (HM.out) (fun hHeld => ?_)
    clear hK K
    (try simp only [Act.put, List.setIfInBounds_toArray, List.set_cons_zero, List.set_cons_succ])
    refine take_first (v := ?_) 10 rfl (by kernel_rfl) (by kernel_rfl) (by kernel_rfl) (fun _ _ _ h => h) (Or.inl ⟨by rfl, ?_⟩) (by assumption) ?_
    rotate_left
    · (intro w hSw; (try dsimp only at hSw); go_simp; try with_reducible rfl)
    (try simp only [Act.put, List.setIfInBounds_toArray, List.set_cons_zero, List.set_cons_succ])
    refine wpAnyH_done (by kernel_rfl) ?_ _
    clear HM hHeld
    go_wp2_with fail
    go_ret
    exact ⟨A9, c9, rfl, HRES.out.1, HRES.out.2.1, HRES.out.2.2.1, HRES.out.2.2.2⟩
  · clear hHeld
    go_simp
    refine (HU0.out _).mono ?_
    rintro e wy2 ⟨A0, c0, rfl, hr, hb⟩
    replace HM := Lib.hid (show Lows w [rdL A0 4 (littleL s 4), blkL w.heap.size 36 (MsgM.mk [s] bs).cells] wy2 from (HM.out.below hb).cons (rdL A0 4 (littleL s 4)) (hr))
    clear hb
    go_wp2_with fail
    refine hK.out _ _ (HM.out.tail 0) (fun hHeld => ?_)
    clear hK K
    (try simp only [Act.put, List.setIfInBounds_toArray, List.set_cons_zero, List.set_cons_succ])
    refine wpAnyH_stronger (T := fun W' => Lows w [rdL A0 4 (littleL s 4), blkL w.heap.size 36 (MsgM.mk [s] bs).cells] W') (fun _ h' => (h'.tail 0)) _ _ _ _ ?_
    replace hHeld := HM.out
    refine step_one 0 rfl (by kernel_rfl) (fun K hK => ?_)
    clear hHeld
    go_simp
    have hm9 := HM.out.alloc 5 #[.int .u8 3, .int .u8 0, .int .u8 0, .int .u8 0] ((msHead 3).map u8v) rfl
    generalize wy2.alloc (.cells #[.int .u8 3, .int .u8 0, .int .u8 0, .int .u8 0] 5) = wy3 at hm9 ⊢
    generalize wy2.heap.size = g4 at hm9 ⊢
    replace HM := Lib.hid (show Lows w [rdL (some ⟨g4, 0, none⟩) 4 (msHead 3), rdL A0 4 (littleL s 4), blkL w.heap.size 36 (MsgM.mk [s] bs).cells] wy3 from (hm9.cons (rdL (some ⟨g4, 0, none⟩) 4 (msHead 3)) (blk_all (hm9.blk 0 rfl) rfl)).tail 1)
    clear hm9
    refine hK.out _ _ (HM.out.tail 0) (fun hHeld => ?_)
    clear hK K
    (try simp only [Act.put, List.setIfInBounds_toArray, List.set_cons_zero, List.set_cons_succ])
    refine wpAnyH_stronger (T := fun W' => Lows w [rdL (some ⟨g4, 0, none⟩) 4 (msHead 3), rdL A0 4 (littleL s 4), blkL w.heap.size 36 (MsgM.mk [s] bs).cells] W') (fun _ h' => (h'.tail 0)) _ _ _ _ ?_
    replace hHeld := HM.out
    refine step_one 8 rfl (by kernel_rfl) (fun K hK => ?_)
    clear hHeld
    go_simp
    have hm9 := HM.out.alloc 38 #[.slice (some ⟨g4, 0, none⟩) 4 4, .slice A0 4 c0, .slice (some ⟨w.heap.size, 1, none⟩) 24 24, .slice (some ⟨w.heap.size, 25, none⟩) 32 32] ([.slice (some ⟨g4, 0, none⟩) 4 4, .slice A0 4 c0, .slice (some ⟨w.heap.size, 1, none⟩) 24 24, .slice (some ⟨w.heap.size, 25, none⟩) 32 32]) rfl
    generalize wy3.alloc (.cells #[.slice (some ⟨g4, 0, none⟩) 4 4, .slice A0 4 c0, .slice (some ⟨w.heap.size, 1, none⟩) 24 24, .slice (some ⟨w.heap.size, 25, none⟩) 32 32] 38) = wy4 at hm9 ⊢
    generalize wy3.heap.size = g7 at hm9 ⊢
    replace HM := Lib.hid (show Lows w [blkL g7 38 ([.slice (some ⟨g4, 0, none⟩) 4 4, .slice A0 4 c0, .slice (some ⟨w.heap.size, 1, none⟩) 24 24, .slice (some ⟨w.heap.size, 25, none⟩) 32 32]), rdL (some ⟨g4, 0, none⟩) 4 (msHead 3), rdL A0 4 (littleL s 4), blkL w.heap.size 36 (MsgM.mk [s] bs).cells] wy4 from hm9)
    clear hm9
    refine hK.out _ _ (HM.out.tail 0) (fun hHeld => ?_)
    clear hK K
    (try simp only [Act.put, List.setIfInBounds_toArray, List.set_cons_zero, List.set_cons_succ])
    refine wpAnyH_stronger (T := fun W' => Lows w [blkL g7 38 ([.slice (some ⟨g4, 0, none⟩) 4 4, .slice A0 4 c0, .slice (some ⟨w.heap.size, 1, none⟩) 24 24, .slice (some ⟨w.heap.size, 25, none⟩) 32 32]), rdL (some ⟨g4, 0, none⟩) 4 (msHead 3), rdL A0 4 (littleL s 4), blkL w.heap.size 36 (MsgM.mk [s] bs).cells] W') (fun _ h' => (h'.tail 0)) _ _ _ _ ?_
    replace hHeld := HM.out
    refine step_one 9 rfl (by kernel_rfl) (fun K hK => ?_)
    clear hHeld
    go_simp
    refine (refJoin_rows g7 38 [⟨(some ⟨g4, 0, none⟩), 4, 4, msHead 3⟩, ⟨A0, 4, c0, littleL s 4⟩, ⟨(some ⟨w.heap.size, 1, none⟩), 24, 24, (bs.drop 0).take 24⟩, ⟨(some ⟨w.heap.size, 25, none⟩), 32, 32, (bs.drop 24).take 32⟩] 4 rfl (by omega) (encB 3 (MsgM.mk [s] bs)) HFL.out 64 HLEN.out (by omega) _ (HM.out.blk 0 rfl) (by
      intro p hp
      simp only [List.mem_cons, List.not_mem_nil, or_false] at hp
      rcases hp with rfl | rfl | rfl | rfl
      · exact HM.out.rd 1 rfl
      · exact HM.out.rd 2 rfl
      · exact msg_rd (HM.out.blk 3 rfl) HOK.out 1 0 24 rfl (by decide)
      · exact msg_rd (HM.out.blk 3 rfl) HOK.out 25 24 32 rfl (by decide)
      )).mono ?_
    rintro e wy5 ⟨A9, c9, rfl, hc1, hc2, hr, hb⟩
    have HRES := Lib.hid (And.intro hc1 (And.intro hc2 (And.intro hr (HM.out.below hb).bel)))
    replace HM := Lib.hid (show Lows w [blkL g7 38 ([.slice (some ⟨g4, 0, none⟩) 4 4, .slice A0 4 c0, .slice (some ⟨w.heap.size, 1, none⟩) 24 24, .slice (some ⟨w.heap.size, 25, none⟩) 32 32]), rdL (some ⟨g4, 0, none⟩) 4 (msHead 3), rdL A0 4 (littleL s 4), blkL w.heap.size 36 (MsgM.mk [s] bs).cells] wy5 from HM.out.below hb)
    clear hr hb hc1 hc2
    go_wp2_with fail
    refine hK.out _ _ (HM.out) (fun hHeld => ?_)
    clear hK K
    (try simp only [Act.put, List.setIfInBounds_toArray, List.set_cons_zero, List.set_cons_succ])
    refine take_first (v := ?_) 10 rfl (by kernel_rfl) (by kernel_rfl) (by kernel_rfl) (fun _ _ _ h => h) (Or.inl ⟨by rfl, ?_⟩) (by assumption) ?_
    rotate_left
    · (intro w hSw; (try dsimp only at hSw); go_simp; try with_reducible rfl)
    (try simp only [Act.put, List.setIfInBounds_toArray, List.set_cons_zero, List.set_cons_succ])
    refine wpAnyH_done (by kernel_rfl) ?_ _
    clear HM hHeld
    go_wp2_with fail
    go_ret
    exact ⟨A9, c9, rfl, HRES.out.1, HRES.out.2.1, HRES.out.2.2.1, HRES.out.2.2.2⟩
end Go.Proofs.Ytaolhndbpgjlcaa
