/-
  The contract of the reference's EncodeTransport. No statement is proved here.
-/
import Derived.Test.YtaolhndbpgjlcaaMsJoin
import Derived.Test.YtaolhndbpgjlcaaKeyMem
import Derived.Test.YtaolhndbpgjlcaaMsTr
namespace Go.Proofs.Ytaolhndbpgjlcaa
open Go.RowKit

set_option maxRecDepth 100000 in
set_option maxHeartbeats 8000000 in
theorem refEncT : MsEncTC 8 := by
  intro r q A n c l hr0 hq0 hnc hcm hn w hr
  have hl : l.length = n := hr.1
  have HU := Lib.hid (refU32_any r hr0)
  have HL8 := Lib.hid (refLittle_any q hq0 8 (by omega) (by omega))
  have HM := Lib.hid (show Lows w [blkL w.heap.size 40 (tranC r q A n c), rdL A n l] (w.alloc (.cells #[.int .u32 (r : Int), .int .u64 (q : Int), .slice A n c] 40)) from
    ((((Lows.nil w).cons (rdL A n l) hr).alloc 40 #[.int .u32 (r : Int), .int .u64 (q : Int), .slice A n c] (tranC r q A n c) rfl)))
  clear hr hr0 hq0
  go_enter Try.func8, Try.ntmps8
  go_upto_region 1 with fail
  generalize w.alloc (.cells #[.int .u32 (r : Int), .int .u64 (q : Int), .slice A n c] 40) = w1 at HM ⊢
  have f2 := (HM.out.blk 0 rfl).cell 2
  rw [show (tranC r q A n c)[2]? = some (.slice A n c) from rfl] at f2
  by_cases h16 : n < 16
  case pos =>
    have d1 : decide ((n : Int) < 16) = true := by simp; omega
    have hE : encT ⟨r, q, l⟩ = ([], 2) := by rw [encT, if_pos (by rw [hl]; exact h16)]
    have HE := Lib.hid hE
    have HB := Lib.hid HM.out.bel
    clear HM hE hl
    go_wp2
    exact bodyPost_ret (results_tmp2 rfl _ _ _) rfl ⟨none, 0, by rw [HE.out]; rfl, by rw [HE.out]; exact Nat.le_refl _, Nat.zero_le _, by rw [HE.out]; exact Rd.nil _ _ _, HB.out⟩
  have d1 : decide ((n : Int) < 16) = false := by simp; omega
  by_cases h84 : 2084 < n
  case pos =>
    have d2 : decide ((n : Int) > 2084) = true := by simp; omega
    have hE : encT ⟨r, q, l⟩ = ([], 3) := by rw [encT, if_neg (by rw [hl]; exact h16), if_pos (by rw [hl]; exact h84)]
    have HE := Lib.hid hE
    have HB := Lib.hid HM.out.bel
    clear HM hE hl
    go_wp2
    exact bodyPost_ret (results_tmp2 rfl _ _ _) rfl ⟨none, 0, by rw [HE.out]; rfl, by rw [HE.out]; exact Nat.le_refl _, Nat.zero_le _, by rw [HE.out]; exact Rd.nil _ _ _, HB.out⟩
  have d2 : decide ((n : Int) > 2084) = false := by simp; omega
  go_upto_region 5 with fail
  have he := encT_some (m := ⟨r, q, l⟩) (by show 16 ≤ l.length; omega) (by show l.length ≤ 2084; omega)
  have HFL := Lib.hid (show ([msHead 4, littleL r 4, littleL q 8, l] : List (List UInt8)).flatten = (encT ⟨r, q, l⟩).1 from by
    rw [he]; simp only [List.flatten_cons, List.flatten_nil, List.append_nil, List.append_assoc])
  have HLEN := Lib.hid (show (encT ⟨r, q, l⟩).1.length ≤ 1000000 from by rw [encT_length, if_neg (by show ¬ l.length < 16; omega), if_neg (by show ¬ 2084 < l.length; omega)]; show 16 + l.length ≤ 1000000; omega)
  have HE2 := Lib.hid (show (encT ⟨r, q, l⟩).2 = 0 from by rw [he])
  clear he f2 d1 d2 hl h16 h84
  refine wp_region_held_drew (S := fun W' => Lows w [blkL w.heap.size 40 (tranC r q A n c), rdL A n l] W') (by kernel_rfl) (HM.out.drew) (fun hHeld => ?_)
  replace HM := Lib.hid HM.out.drew
  generalize w1.drew = wd1 at HM hHeld ⊢
  refine take_first (v := ?_) 1 rfl (by kernel_rfl) (by kernel_rfl) (by kernel_rfl) (fun _ _ _ h => h) (Or.inl ⟨by rfl, ?_⟩) (by assumption) ?_
  rotate_left
  · (intro w hSw; (try dsimp only at hSw); go_simp; try with_reducible rfl)
  (try simp only [Act.put, List.setIfInBounds_toArray, List.set_cons_zero, List.set_cons_succ])
  refine take_first (v := ?_) 2 rfl (by kernel_rfl) (by kernel_rfl) (by kernel_rfl) (fun _ _ _ h => h) (Or.inl ⟨by rfl, ?_⟩) (by assumption) ?_
  rotate_left
  · (intro w hSw; (try dsimp only at hSw); have fl := (Lows.blk hSw 0 rfl).cell 0; rw [show (tranC r q A n c)[0]? = some (.int .u32 (r : Int)) from rfl] at fl; go_simp; try with_reducible rfl)
  (try simp only [Act.put, List.setIfInBounds_toArray, List.set_cons_zero, List.set_cons_succ])
  refine take_first (v := ?_) 4 rfl (by kernel_rfl) (by kernel_rfl) (by kernel_rfl) (fun _ _ _ h => h) (Or.inl ⟨by rfl, ?_⟩) (by assumption) ?_
  rotate_left
  · (intro w hSw; (try dsimp only at hSw); go_simp; try with_reducible rfl)
  (try simp only [Act.put, List.setIfInBounds_toArray, List.set_cons_zero, List.set_cons_succ])
  refine take_first (v := ?_) 5 rfl (by kernel_rfl) (by kernel_rfl) (by kernel_rfl) (fun _ _ _ h => h) (Or.inl ⟨by rfl, ?_⟩) (by assumption) ?_
  rotate_left
  · (intro w hSw; (try dsimp only at hSw); have fl := (Lows.blk hSw 0 rfl).cell 1; rw [show (tranC r q A n c)[1]? = some (.int .u64 (q : Int)) from rfl] at fl; go_simp; try with_reducible rfl)
  (try simp only [Act.put, List.setIfInBounds_toArray, List.set_cons_zero, List.set_cons_succ])
  refine take_first (v := ?_) 7 rfl (by kernel_rfl) (by kernel_rfl) (by kernel_rfl) (fun _ _ _ h => h) (Or.inl ⟨by rfl, ?_⟩) (by assumption) ?_
  rotate_left
  · (intro w hSw; (try dsimp only at hSw); go_simp; try with_reducible rfl)
  (try simp only [Act.put, List.setIfInBounds_toArray, List.set_cons_zero, List.set_cons_succ])
  refine take_first (v := ?_) 8 rfl (by kernel_rfl) (by kernel_rfl) (by kernel_rfl) (fun _ _ _ h => h) (Or.inl ⟨by rfl, ?_⟩) (by assumption) ?_
  rotate_left
  · (intro w hSw; (try dsimp only at hSw); have fl := (Lows.blk hSw 0 rfl).cell 2; rw [show (tranC r q A n c)[2]? = some (.slice A n c) from rfl] at fl; go_simp; try with_reducible rfl)
  (try simp only [Act.put, List.setIfInBounds_toArray, List.set_cons_zero, List.set_cons_succ])
  refine step_two 0 3 rfl rfl (by kernel_rfl) (fun K hK => ?_) (fun K hK => ?_)
  · clear hHeld
    go_simp
    have hm9 := HM.out.alloc 5 #[.int .u8 4, .int .u8 0, .int .u8 0, .int .u8 0] ((msHead 4).map u8v) rfl
    generalize wd1.alloc (.cells #[.int .u8 4, .int .u8 0, .int .u8 0, .int .u8 0] 5) = wy2 at hm9 ⊢
    generalize wd1.heap.size = g4 at hm9 ⊢
    replace HM := Lib.hid (show Lows w [rdL (some ⟨g4, 0, none⟩) 4 (msHead 4), blkL w.heap.size 40 (tranC r q A n c), rdL A n l] wy2 from (hm9.cons (rdL (some ⟨g4, 0, none⟩) 4 (msHead 4)) (blk_all (hm9.blk 0 rfl) rfl)).tail 1)
    clear hm9
    refine hK.out _ _ (HM.out.tail 0) (fun hHeld => ?_)
    clear hK K
    (try simp only [Act.put, List.setIfInBounds_toArray, List.set_cons_zero, List.set_cons_succ])
    refine wpAnyH_stronger (T := fun W' => Lows w [rdL (some ⟨g4, 0, none⟩) 4 (msHead 4), blkL w.heap.size 40 (tranC r q A n c), rdL A n l] W') (fun _ h' => (h'.tail 0)) _ _ _ _ ?_
    replace hHeld := HM.out
    refine step_one 3 rfl (by kernel_rfl) (fun K hK => ?_)
    clear hHeld
    go_simp
    refine (HU.out _).mono ?_
    rintro e wy3 ⟨A0, c0, rfl, hr, hb⟩
    replace HM := Lib.hid (show Lows w [rdL A0 4 (littleL r 4), rdL (some ⟨g4, 0, none⟩) 4 (msHead 4), blkL w.heap.size 40 (tranC r q A n c), rdL A n l] wy3 from (HM.out.below hb).cons (rdL A0 4 (littleL r 4)) (hr))
    clear hb
    go_wp2_with fail
    refine hK.out _ _ (HM.out.tail 0) (fun hHeld => ?_)
    clear hK K
    (try simp only [Act.put, List.setIfInBounds_toArray, List.set_cons_zero, List.set_cons_succ])
    refine wpAnyH_stronger (T := fun W' => Lows w [rdL A0 4 (littleL r 4), rdL (some ⟨g4, 0, none⟩) 4 (msHead 4), blkL w.heap.size 40 (tranC r q A n c), rdL A n l] W') (fun _ h' => (h'.tail 0)) _ _ _ _ ?_
    replace hHeld := HM.out
    refine step_one 6 rfl (by kernel_rfl) (fun K hK => ?_)
    clear hHeld
    go_simp
    refine (HL8.out _).mono ?_
    rintro e wy4 ⟨A1, c1, rfl, ho, hb⟩
    replace HM := Lib.hid (show Lows w [rdL A1 8 (littleL q 8), rdL A0 4 (littleL r 4), rdL (some ⟨g4, 0, none⟩) 4 (msHead 4), blkL w.heap.size 40 (tranC r q A n c), rdL A n l] wy4 from (HM.out.below hb).cons (rdL A1 8 (littleL q 8)) (Rd.of_own ho))
    clear hb
    clear ho
    go_wp2_with fail
    refine hK.out _ _ (HM.out.tail 0) (fun hHeld => ?_)
    clear hK K
    (try simp only [Act.put, List.setIfInBounds_toArray, List.set_cons_zero, List.set_cons_succ])
    refine wpAnyH_stronger (T := fun W' => Lows w [rdL A1 8 (littleL q 8), rdL A0 4 (littleL r 4), rdL (some ⟨g4, 0, none⟩) 4 (msHead 4), blkL w.heap.size 40 (tranC r q A n c), rdL A n l] W') (fun _ h' => (h'.tail 0)) _ _ _ _ ?_
    replace hHeld := HM.out
    refine step_one 9 rfl (by kernel_rfl) (fun K hK => ?_)
    clear hHeld
    go_simp
    have hm9 := HM.out.alloc 38 #[.slice (some ⟨g4, 0, none⟩) 4 4, .slice A0 4 c0, .slice A1 8 c1, .slice A n c] ([.slice (some ⟨g4, 0, none⟩) 4 4, .slice A0 4 c0, .slice A1 8 c1, .slice A n c]) rfl
    generalize wy4.alloc (.cells #[.slice (some ⟨g4, 0, none⟩) 4 4, .slice A0 4 c0, .slice A1 8 c1, .slice A n c] 38) = wy5 at hm9 ⊢
    generalize wy4.heap.size = g7 at hm9 ⊢
    replace HM := Lib.hid (show Lows w [blkL g7 38 ([.slice (some ⟨g4, 0, none⟩) 4 4, .slice A0 4 c0, .slice A1 8 c1, .slice A n c]), rdL A1 8 (littleL q 8), rdL A0 4 (littleL r 4), rdL (some ⟨g4, 0, none⟩) 4 (msHead 4), blkL w.heap.size 40 (tranC r q A n c), rdL A n l] wy5 from hm9)
    clear hm9
    refine hK.out _ _ (HM.out.tail 0) (fun hHeld => ?_)
    clear hK K
    (try simp only [Act.put, List.setIfInBounds_toArray, List.set_cons_zero, List.set_cons_succ])
    refine wpAnyH_stronger (T := fun W' => Lows w [blkL g7 38 ([.slice (some ⟨g4, 0, none⟩) 4 4, .slice A0 4 c0, .slice A1 8 c1, .slice A n c]), rdL A1 8 (littleL q 8), rdL A0 4 (littleL r 4), rdL (some ⟨g4, 0, none⟩) 4 (msHead 4), blkL w.heap.size 40 (tranC r q A n c), rdL A n l] W') (fun _ h' => (h'.tail 0)) _ _ _ _ ?_
    replace hHeld := HM.out
    refine step_one 10 rfl (by kernel_rfl) (fun K hK => ?_)
    clear hHeld
    go_simp
    refine (refJoin_rows g7 38 [⟨(some ⟨g4, 0, none⟩), 4, 4, msHead 4⟩, ⟨A0, 4, c0, littleL r 4⟩, ⟨A1, 8, c1, littleL q 8⟩, ⟨A, n, c, l⟩] 4 rfl (by omega) (encT ⟨r, q, l⟩).1 HFL.out (encT ⟨r, q, l⟩).1.length rfl HLEN.out _ (HM.out.blk 0 rfl) (by
      intro p hp
      simp only [List.mem_cons, List.not_mem_nil, or_false] at hp
      rcases hp with rfl | rfl | rfl | rfl
      · exact HM.out.rd 3 rfl
      · exact HM.out.rd 2 rfl
      · exact HM.out.rd 1 rfl
      · exact HM.out.rd 5 rfl
      )).mono ?_
    rintro e wy6 ⟨A9, c9, rfl, hc1, hc2, hr, hb⟩
    have HRES := Lib.hid (And.intro hc1 (And.intro hc2 (And.intro hr (HM.out.below hb).bel)))
    replace HM := Lib.hid (show Lows w [blkL g7 38 ([.slice (some ⟨g4, 0, none⟩) 4 4, .slice A0 4 c0, .slice A1 8 c1, .slice A n c]), rdL A1 8 (littleL q 8), rdL A0 4 (littleL r 4), rdL (some ⟨g4, 0, none⟩) 4 (msHead 4), blkL w.heap.size 40 (tranC r q A n c), rdL A n l] wy6 from HM.out.below hb)
    clear hr hb hc1 hc2
    go_wp2_with fail
    refine hK.out _ _ (HM.out) (fun hHeld => ?_)
    clear hK K
    (try simp only [Act.put, List.setIfInBounds_toArray, List.set_cons_zero, List.set_cons_succ])
    refine take_first (v := ?_) 11 rfl (by kernel_rfl) (by kernel_rfl) (by kernel_rfl) (fun _ _ _ h => h) (Or.inl ⟨by rfl, ?_⟩) (by assumption) ?_
    rotate_left
    · (intro w hSw; (try dsimp only at hSw); go_simp; try with_reducible rfl)
    (try simp only [Act.put, List.setIfInBounds_toArray, List.set_cons_zero, List.set_cons_succ])
    refine take_first (v := ?_) 12 rfl (by kernel_rfl) (by kernel_rfl) (by kernel_rfl) (fun _ _ _ h => h) (Or.inl ⟨by rfl, ?_⟩) (by assumption) ?_
    rotate_left
    · (intro w hSw; (try dsimp only at hSw); go_simp; try with_reducible rfl)
    (try simp only [Act.put, List.setIfInBounds_toArray, List.set_cons_zero, List.set_cons_succ])
    refine wpAnyH_done (by kernel_rfl) ?_ _
    clear HM hHeld
    go_wp2_with fail
    exact bodyPost_ret (results_tmp2 rfl _ _ _) rfl ⟨A9, c9, by rw [HE2.out]; rfl, HRES.out.1, HRES.out.2.1, HRES.out.2.2.1, HRES.out.2.2.2⟩
  · clear hHeld
    go_simp
    refine (HU.out _).mono ?_
    rintro e wy2 ⟨A0, c0, rfl, hr, hb⟩
    replace HM := Lib.hid (show Lows w [rdL A0 4 (littleL r 4), blkL w.heap.size 40 (tranC r q A n c), rdL A n l] wy2 from (HM.out.below hb).cons (rdL A0 4 (littleL r 4)) (hr))
    clear hb
    go_wp2_with fail
    refine hK.out _ _ (HM.out.tail 0) (fun hHeld => ?_)
    clear hK K
    (try simp only [Act.put, List.setIfInBounds_toArray, List.set_cons_zero, List.set_cons_succ])
    refine wpAnyH_stronger (T := fun W' => Lows w [rdL A0 4 (littleL r 4), blkL w.heap.size 40 (tranC r q A n c), rdL A n l] W') (fun _ h' => (h'.tail 0)) _ _ _ _ ?_
    replace hHeld := HM.out
    refine step_two 0 6 rfl rfl (by kernel_rfl) (fun K hK => ?_) (fun K hK => ?_)
    · clear hHeld
      go_simp
      have hm9 := HM.out.alloc 5 #[.int .u8 4, .int .u8 0, .int .u8 0, .int .u8 0] ((msHead 4).map u8v) rfl
      generalize wy2.alloc (.cells #[.int .u8 4, .int .u8 0, .int .u8 0, .int .u8 0] 5) = wy3 at hm9 ⊢
      generalize wy2.heap.size = g4 at hm9 ⊢
      replace HM := Lib.hid (show Lows w [rdL (some ⟨g4, 0, none⟩) 4 (msHead 4), rdL A0 4 (littleL r 4), blkL w.heap.size 40 (tranC r q A n c), rdL A n l] wy3 from (hm9.cons (rdL (some ⟨g4, 0, none⟩) 4 (msHead 4)) (blk_all (hm9.blk 0 rfl) rfl)).tail 1)
      clear hm9
      refine hK.out _ _ (HM.out.tail 0) (fun hHeld => ?_)
      clear hK K
      (try simp only [Act.put, List.setIfInBounds_toArray, List.set_cons_zero, List.set_cons_succ])
      refine wpAnyH_stronger (T := fun W' => Lows w [rdL (some ⟨g4, 0, none⟩) 4 (msHead 4), rdL A0 4 (littleL r 4), blkL w.heap.size 40 (tranC r q A n c), rdL A n l] W') (fun _ h' => (h'.tail 0)) _ _ _ _ ?_
      replace hHeld := HM.out
      refine step_one 6 rfl (by kernel_rfl) (fun K hK => ?_)
      clear hHeld
      go_simp
      refine (HL8.out _).mono ?_
      rintro e wy4 ⟨A1, c1, rfl, ho, hb⟩
      replace HM := Lib.hid (show Lows w [rdL A1 8 (littleL q 8), rdL (some ⟨g4, 0, none⟩) 4 (msHead 4), rdL A0 4 (littleL r 4), blkL w.heap.size 40 (tranC r q A n c), rdL A n l] wy4 from (HM.out.below hb).cons (rdL A1 8 (littleL q 8)) (Rd.of_own ho))
      clear hb
      clear ho
      go_wp2_with fail
      refine hK.out _ _ (HM.out.tail 0) (fun hHeld => ?_)
      clear hK K
      (try simp only [Act.put, List.setIfInBounds_toArray, List.set_cons_zero, List.set_cons_succ])
      refine wpAnyH_stronger (T := fun W' => Lows w [rdL A1 8 (littleL q 8), rdL (some ⟨g4, 0, none⟩) 4 (msHead 4), rdL A0 4 (littleL r 4), blkL w.heap.size 40 (tranC r q A n c), rdL A n l] W') (fun _ h' => (h'.tail 0)) _ _ _ _ ?_
      replace hHeld := HM.out
      refine step_one 9 rfl (by kernel_rfl) (fun K hK => ?_)
      clear hHeld
      go_simp
      have hm9 := HM.out.alloc 38 #[.slice (some ⟨g4, 0, none⟩) 4 4, .slice A0 4 c0, .slice A1 8 c1, .slice A n c] ([.slice (some ⟨g4, 0, none⟩) 4 4, .slice A0 4 c0, .slice A1 8 c1, .slice A n c]) rfl
      generalize wy4.alloc (.cells #[.slice (some ⟨g4, 0, none⟩) 4 4, .slice A0 4 c0, .slice A1 8 c1, .slice A n c] 38) = wy5 at hm9 ⊢
      generalize wy4.heap.size = g7 at hm9 ⊢
      replace HM := Lib.hid (show Lows w [blkL g7 38 ([.slice (some ⟨g4, 0, none⟩) 4 4, .slice A0 4 c0, .slice A1 8 c1, .slice A n c]), rdL A1 8 (littleL q 8), rdL (some ⟨g4, 0, none⟩) 4 (msHead 4), rdL A0 4 (littleL r 4), blkL w.heap.size 40 (tranC r q A n c), rdL A n l] wy5 from hm9)
      clear hm9
      refine hK.out _ _ (HM.out.tail 0) (fun hHeld => ?_)
      clear hK K
      (try simp only [Act.put, List.setIfInBounds_toArray, List.set_cons_zero, List.set_cons_succ])
      refine wpAnyH_stronger (T := fun W' => Lows w [blkL g7 38 ([.slice (some ⟨g4, 0, none⟩) 4 4, .slice A0 4 c0, .slice A1 8 c1, .slice A n c]), rdL A1 8 (littleL q 8), rdL (some ⟨g4, 0, none⟩) 4 (msHead 4), rdL A0 4 (littleL r 4), blkL w.heap.size 40 (tranC r q A n c), rdL A n l] W') (fun _ h' => (h'.tail 0)) _ _ _ _ ?_
      replace hHeld := HM.out
      refine step_one 10 rfl (by kernel_rfl) (fun K hK => ?_)
      clear hHeld
      go_simp
      refine (refJoin_rows g7 38 [⟨(some ⟨g4, 0, none⟩), 4, 4, msHead 4⟩, ⟨A0, 4, c0, littleL r 4⟩, ⟨A1, 8, c1, littleL q 8⟩, ⟨A, n, c, l⟩] 4 rfl (by omega) (encT ⟨r, q, l⟩).1 HFL.out (encT ⟨r, q, l⟩).1.length rfl HLEN.out _ (HM.out.blk 0 rfl) (by
        intro p hp
        simp only [List.mem_cons, List.not_mem_nil, or_false] at hp
        rcases hp with rfl | rfl | rfl | rfl
        · exact HM.out.rd 2 rfl
        · exact HM.out.rd 3 rfl
        · exact HM.out.rd 1 rfl
        · exact HM.out.rd 5 rfl
        )).mono ?_
      rintro e wy6 ⟨A9, c9, rfl, hc1, hc2, hr, hb⟩
      have HRES := Lib.hid (And.intro hc1 (And.intro hc2 (And.intro hr (HM.out.below hb).bel)))
      replace HM := Lib.hid (show Lows w [blkL g7 38 ([.slice (some ⟨g4, 0, none⟩) 4 4, .slice A0 4 c0, .slice A1 8 c1, .slice A n c]), rdL A1 8 (littleL q 8), rdL (some ⟨g4, 0, none⟩) 4 (msHead 4), rdL A0 4 (littleL r 4), blkL w.heap.size 40 (tranC r q A n c), rdL A n l] wy6 from HM.out.below hb)
      clear hr hb hc1 hc2
      go_wp2_with fail
      refine hK.out _ _ (HM.out) (fun hHeld => ?_)
      clear hK K
      (try simp only [Act.put, List.setIfInBounds_toArray, List.set_cons_zero, List.set_cons_succ])
      refine take_first (v := ?_) 11 rfl (by kernel_rfl) (by kernel_rfl) (by kernel_rfl) (fun _ _ _ h => h) (Or.inl ⟨by rfl, ?_⟩) (by assumption) ?_
      rotate_left
      · (intro w hSw; (try dsimp only at hSw); go_simp; try with_reducible rfl)
      (try simp only [Act.put, List.setIfInBounds_toArray, List.set_cons_zero, List.set_cons_succ])
      refine take_first (v := ?_) 12 rfl (by kernel_rfl) (by kernel_rfl) (by kernel_rfl) (fun _ _ _ h => h) (Or.inl ⟨by rfl, ?_⟩) (by assumption) ?_
      rotate_left
      · (intro w hSw; (try dsimp only at hSw); go_simp; try with_reducible rfl)
      (try simp only [Act.put, List.setIfInBounds_toArray, List.set_cons_zero, List.set_cons_succ])
      refine wpAnyH_done (by kernel_rfl) ?_ _
      clear HM hHeld
      go_wp2_with fail
      exact bodyPost_ret (results_tmp2 rfl _ _ _) rfl ⟨A9, c9, by rw [HE2.out]; rfl, HRES.out.1, HRES.out.2.1, HRES.out.2.2.1, HRES.out.2.2.2⟩
    · clear hHeld
      go_simp
      refine (HL8.out _).mono ?_
      rintro e wy3 ⟨A1, c1, rfl, ho, hb⟩
      replace HM := Lib.hid (show Lows w [rdL A1 8 (littleL q 8), rdL A0 4 (littleL r 4), blkL w.heap.size 40 (tranC r q A n c), rdL A n l] wy3 from (HM.out.below hb).cons (rdL A1 8 (littleL q 8)) (Rd.of_own ho))
      clear hb
      clear ho
      go_wp2_with fail
      refine hK.out _ _ (HM.out.tail 0) (fun hHeld => ?_)
      clear hK K
      (try simp only [Act.put, List.setIfInBounds_toArray, List.set_cons_zero, List.set_cons_succ])
      refine wpAnyH_stronger (T := fun W' => Lows w [rdL A1 8 (littleL q 8), rdL A0 4 (littleL r 4), blkL w.heap.size 40 (tranC r q A n c), rdL A n l] W') (fun _ h' => (h'.tail 0)) _ _ _ _ ?_
      replace hHeld := HM.out
      refine step_one 0 rfl (by kernel_rfl) (fun K hK => ?_)
      clear hHeld
      go_simp
      have hm9 := HM.out.alloc 5 #[.int .u8 4, .int .u8 0, .int .u8 0, .int .u8 0] ((msHead 4).map u8v) rfl
      generalize wy3.alloc (.cells #[.int .u8 4, .int .u8 0, .int .u8 0, .int .u8 0] 5) = wy4 at hm9 ⊢
      generalize wy3.heap.size = g4 at hm9 ⊢
      replace HM := Lib.hid (show Lows w [rdL (some ⟨g4, 0, none⟩) 4 (msHead 4), rdL A1 8 (littleL q 8), rdL A0 4 (littleL r 4), blkL w.heap.size 40 (tranC r q A n c), rdL A n l] wy4 from (hm9.cons (rdL (some ⟨g4, 0, none⟩) 4 (msHead 4)) (blk_all (hm9.blk 0 rfl) rfl)).tail 1)
      clear hm9
      refine hK.out _ _ (HM.out.tail 0) (fun hHeld => ?_)
      clear hK K
      (try simp only [Act.put, List.setIfInBounds_toArray, List.set_cons_zero, List.set_cons_succ])
      refine wpAnyH_stronger (T := fun W' => Lows w [rdL (some ⟨g4, 0, none⟩) 4 (msHead 4), rdL A1 8 (littleL q 8), rdL A0 4 (littleL r 4), blkL w.heap.size 40 (tranC r q A n c), rdL A n l] W') (fun _ h' => (h'.tail 0)) _ _ _ _ ?_
      replace hHeld := HM.out
      refine step_one 9 rfl (by kernel_rfl) (fun K hK => ?_)
      clear hHeld
      go_simp
      have hm9 := HM.out.alloc 38 #[.slice (some ⟨g4, 0, none⟩) 4 4, .slice A0 4 c0, .slice A1 8 c1, .slice A n c] ([.slice (some ⟨g4, 0, none⟩) 4 4, .slice A0 4 c0, .slice A1 8 c1, .slice A n c]) rfl
      generalize wy4.alloc (.cells #[.slice (some ⟨g4, 0, none⟩) 4 4, .slice A0 4 c0, .slice A1 8 c1, .slice A n c] 38) = wy5 at hm9 ⊢
      generalize wy4.heap.size = g7 at hm9 ⊢
      replace HM := Lib.hid (show Lows w [blkL g7 38 ([.slice (some ⟨g4, 0, none⟩) 4 4, .slice A0 4 c0, .slice A1 8 c1, .slice A n c]), rdL (some ⟨g4, 0, none⟩) 4 (msHead 4), rdL A1 8 (littleL q 8), rdL A0 4 (littleL r 4), blkL w.heap.size 40 (tranC r q A n c), rdL A n l] wy5 from hm9)
      clear hm9
      refine hK.out _ _ (HM.out.tail 0) (fun hHeld => ?_)
      clear hK K
      (try simp only [Act.put, List.setIfInBounds_toArray, List.set_cons_zero, List.set_cons_succ])
      refine wpAnyH_stronger (T := fun W' => Lows w [blkL g7 38 ([.slice (some ⟨g4, 0, none⟩) 4 4, .slice A0 4 c0, .slice A1 8 c1, .slice A n c]), rdL (some ⟨g4, 0, none⟩) 4 (msHead 4), rdL A1 8 (littleL q 8), rdL A0 4 (littleL r 4), blkL w.heap.size 40 (tranC r q A n c), rdL A n l] W') (fun _ h' => (h'.tail 0)) _ _ _ _ ?_
      replace hHeld := HM.out
      refine step_one 10 rfl (by kernel_rfl) (fun K hK => ?_)
      clear hHeld
      go_simp
      refine (refJoin_rows g7 38 [⟨(some ⟨g4, 0, none⟩), 4, 4, msHead 4⟩, ⟨A0, 4, c0, littleL r 4⟩, ⟨A1, 8, c1, littleL q 8⟩, ⟨A, n, c, l⟩] 4 rfl (by omega) (encT ⟨r, q, l⟩).1 HFL.out (encT ⟨r, q, l⟩).1.length rfl HLEN.out _ (HM.out.blk 0 rfl) (by
        intro p hp
        simp only [List.mem_cons, List.not_mem_nil, or_false] at hp
        rcases hp with rfl | rfl | rfl | rfl
        · exact HM.out.rd 1 rfl
        · exact HM.out.rd 3 rfl
        · exact HM.out.rd 2 rfl
        · exact HM.out.rd 5 rfl
        )).mono ?_
      rintro e wy6 ⟨A9, c9, rfl, hc1, hc2, hr, hb⟩
      have HRES := Lib.hid (And.intro hc1 (And.intro hc2 (And.intro hr (HM.out.below hb).bel)))
      replace HM := Lib.hid (show Lows w [blkL g7 38 ([.slice (some ⟨g4, 0, none⟩) 4 4, .slice A0 4 c0, .slice A1 8 c1, .slice A n c]), rdL (some ⟨g4, 0, none⟩) 4 (msHead 4), rdL A1 8 (littleL q 8), rdL A0 4 (littleL r 4), blkL w.heap.size 40 (tranC r q A n c), rdL A n l] wy6 from HM.out.below hb)
      clear hr hb hc1 hc2
      go_wp2_with fail
      refine hK.out _ _ (HM.out) (fun hHeld => ?_)
      clear hK K
      (try simp only [Act.put, List.setIfInBounds_toArray, List.set_cons_zero, List.set_cons_succ])
      refine take_first (v := ?_) 11 rfl (by kernel_rfl) (by kernel_rfl) (by kernel_rfl) (fun _ _ _ h => h) (Or.inl ⟨by rfl, ?_⟩) (by assumption) ?_
      rotate_left
      · (intro w hSw; (try dsimp only at hSw); go_simp; try with_reducible rfl)
      (try simp only [Act.put, List.setIfInBounds_toArray, List.set_cons_zero, List.set_cons_succ])
      refine take_first (v := ?_) 12 rfl (by kernel_rfl) (by kernel_rfl) (by kernel_rfl) (fun _ _ _ h => h) (Or.inl ⟨by rfl, ?_⟩) (by assumption) ?_
      rotate_left
      · (intro w hSw; (try dsimp only at hSw); go_simp; try with_reducible rfl)
      (try simp only [Act.put, List.setIfInBounds_toArray, List.set_cons_zero, List.set_cons_succ])
      refine wpAnyH_done (by kernel_rfl) ?_ _
      clear HM hHeld
      go_wp2_with fail
      exact bodyPost_ret (results_tmp2 rfl _ _ _) rfl ⟨A9, c9, by rw [HE2.out]; rfl, HRES.out.1, HRES.out.2.1, HRES.out.2.2.1, HRES.out.2.2.2⟩
end Go.Proofs.Ytaolhndbpgjlcaa
