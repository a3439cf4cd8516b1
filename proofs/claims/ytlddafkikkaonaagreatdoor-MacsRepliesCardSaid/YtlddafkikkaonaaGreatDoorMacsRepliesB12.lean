/-
  The contract of the reference's EncodeCookie, whose bytes lie in memory of its own. The contract of the reference's Kind. A message whose fields are copied in one by one. The contract of the reference's Reply. A field of a message as cells. A row that was made is a block; bytes that were read stay. Bytes at a place, and the length of a cookie that was sealed. The number of four bytes, as the reference reads it. The contract of the reference's DecodeCookie. The contract of the reference's OpenReply. What is known of the type of keys. A tag is equal to itself. The contract of burrowcase.Cut: the first bytes of data. The bits of an exclusive or of two bytes. append of a slice, and of a made one (zeros), onto a row of bytes of the call's own. No statement is proved here.
-/
import Derived.Deep.QuietTactic
import Derived.BigQuiet
import Derived.RegionTactic
import Derived.BigRegion
import Derived.Deep.RegionWith
import Derived.Deep.DeepCutAuto
import Derived.Outline
import Derived.Lib.AppendZerosOnto
import Derived.Test.YtlddafkikkaonaaGreatDoorMacsRepliesB11
namespace Go.Proofs.YtlddafkikkaonaaGreatDoor
open Go.RowKit
theorem refJoin_new (g : Nat) (t : TypeId) (ps : List Part) (k : Nat) (hk : ps.length = k) (hk1 : k ≤ 1000) (L : List UInt8) (hL : (ps.map Part.l).flatten = L) (M : Nat) (hM : L.length = M) (hM6 : M ≤ 1000000) (w : World) (hb : Blk w g t (ps.map Part.v)) (hr : ∀ p ∈ ps, Rd w w.heap.size p.A p.n p.l) :
 Calls Tryz.prog 25 #[.slice (some ⟨g, 0, none⟩) k k] w fun e w' => ∃ A' c', e = .returned (.slice A' M c') ∧ M ≤ c' ∧ c' ≤ maxLen ∧ RdIn w.heap.size w'.heap.size A' M L w' ∧ Below w.heap.size w w' := by
 subst hk
 have hf : flat ps ps.length = L := by rw [flat, List.take_of_length_le (Nat.le_refl _), hL]
 have hJ := refJoin_any w.heap.size ps.length (some ⟨g, 0, none⟩) ps (by omega) (by rw [hf, hM]; exact hM6) w (Nat.le_refl _) (parts_rd hb hr)
 refine hJ.mono ?_
 rintro e w' ⟨A', c', he, ho, hbl⟩
 rw [hf, hM] at he ho
 obtain ⟨q1, q2, _⟩ := own_addr ho
 exact ⟨A', c', he, q1, q2, RdIn.of_own ho, hbl⟩
theorem refEncN3_parts (s : Nat) (bs : List UInt8) (hb : bs.length = 56) : (msHead 3 ++ (littleL s 4 ++ ((bs.drop 0).take 24 ++ ((bs.drop 24).take 32)))) = encB 3 (MsgM.mk [s] bs) := by
 have e : (bs.drop 0).take 24 ++ ((bs.drop 24).take 32) = bs := by
  apply List.ext_getElem
  · simp only [List.length_append, List.length_take, List.length_drop]; omega
  ·
   intro i h1 h2
   simp only [List.getElem_append, List.getElem_take, List.getElem_drop, List.length_take, List.length_drop]
   repeat' split
   all_goals (congr 1; omega)
 rw [e]
 simp only [encB, numsB, List.flatMap_cons, List.flatMap_nil, List.append_nil, List.append_assoc]
set_option maxRecDepth 100000 in
set_option maxHeartbeats 8000000 in
theorem refEncN3 : MsEncNC 12 3 := by
 intro m0 hok w
 obtain ⟨nums, bs⟩ := m0
 obtain ⟨s, hnum⟩ : ∃ s, nums = [s] := by
  have h := hok.1
  match nums, h with
  | [s], _ => exact ⟨s, rfl⟩
 subst hnum
 have HOK := Lib.hid hok
 have HU0 := Lib.hid (refU32_any s (hok.2.2 s (by simp)))
 have HLEN := Lib.hid (show (encB 3 (MsgM.mk [s] bs)).length = 64 from encB_length hok)
 have hfl := refEncN3_parts s bs hok.2.1
 obtain ⟨cm, hcm⟩ : ∃ z, (MsgM.mk [s] bs).cells.toArray = z := ⟨_, rfl⟩
 have HM := Lib.hid (show Lows w [blkL w.heap.size 40 (MsgM.mk [s] bs).cells] (w.alloc (.cells cm 40)) from (Lows.nil w).alloc 40 cm (MsgM.mk [s] bs).cells hcm.symm)
 rw [hcm]
 have HFL := Lib.hid (show ([(msHead 3 : List UInt8), (littleL s 4 : List UInt8), ((bs.drop 0).take 24 : List UInt8), ((bs.drop 24).take 32 : List UInt8)] : List (List UInt8)).flatten = encB 3 (MsgM.mk [s] bs) from by
  rw [← hfl]; simp only [List.flatten_cons, List.flatten_nil, List.append_nil])
 clear hok hfl hcm
 go_enter Tryz.func12, Tryz.ntmps12
 go_upto_region 1 with fail
 generalize w.alloc (.cells cm 40) = w1 at HM ⊢
 refine wp_region_held_drew (S := fun W' => Lows w [blkL w.heap.size 40 (MsgM.mk [s] bs).cells] W') (by kernel_rfl) (HM.out.drew) (fun hHeld => ?_)
 replace HM := Lib.hid HM.out.drew
 generalize w1.drew = wd1 at HM hHeld ⊢
 refine tf (v := ?_) 1 rfl (Or.inl ⟨by rfl, ?_⟩) ?_
 rotate_left
 · (intro w hSw; (try dsimp only at hSw); go_simp; try with_reducible rfl)
 (try simp only [Act.put, sA, s0, s1])
 refine tf (v := ?_) 2 rfl (Or.inl ⟨by rfl, ?_⟩) ?_
 rotate_left
 · (intro w hSw; (try dsimp only at hSw); have fl := msg_num (Lows.blk hSw 0 rfl) 0 s rfl; go_simp; try with_reducible rfl)
 (try simp only [Act.put, sA, s0, s1])
 refine tf (v := ?_) 4 rfl (Or.inl ⟨by rfl, ?_⟩) ?_
 rotate_left
 · (intro w hSw; (try dsimp only at hSw); go_simp; try with_reducible rfl)
 (try simp only [Act.put, sA, s0, s1])
 refine tf (v := ?_) 5 rfl (Or.inl ⟨by rfl, ?_⟩) ?_
 rotate_left
 · (intro w hSw; (try dsimp only at hSw); go_simp; try with_reducible rfl)
 (try simp only [Act.put, sA, s0, s1])
 refine tf (v := ?_) 6 rfl (Or.inl ⟨by rfl, ?_⟩) ?_
 rotate_left
 · (intro w hSw; (try dsimp only at hSw); go_simp; try with_reducible rfl)
 (try simp only [Act.put, sA, s0, s1])
 refine tf (v := ?_) 7 rfl (Or.inl ⟨by rfl, ?_⟩) ?_
 rotate_left
 · (intro w hSw; (try dsimp only at hSw); go_simp; try with_reducible rfl)
 (try simp only [Act.put, sA, s0, s1])
 refine step_two 0 3 rfl rfl (by kernel_rfl) (fun K hK => ?_) (fun K hK => ?_)
 ·
  clear hHeld
  go_simp
  have hm9 := HM.out.alloc 5 #[.int .u8 3, .int .u8 0, .int .u8 0, .int .u8 0] ((msHead 3).map u8v) rfl
  generalize wd1.alloc (.cells #[.int .u8 3, .int .u8 0, .int .u8 0, .int .u8 0] 5) = wy2 at hm9 ⊢
  generalize wd1.heap.size = g4 at hm9 ⊢
  replace HM := Lib.hid (show Lows w [rdL (some ⟨g4, 0, none⟩) 4 (msHead 3), blkL w.heap.size 40 (MsgM.mk [s] bs).cells] wy2 from (hm9.cons (rdL (some ⟨g4, 0, none⟩) 4 (msHead 3)) (blk_all (hm9.blk 0 rfl) rfl)).tail 1)
  clear hm9
  refine hK.out _ _ (HM.out.tail 0) (fun hHeld => ?_)
  clear hK K
  (try simp only [Act.put, sA, s0, s1])
  refine wpAnyH_stronger (T := fun W' => Lows w [rdL (some ⟨g4, 0, none⟩) 4 (msHead 3), blkL w.heap.size 40 (MsgM.mk [s] bs).cells] W') (fun _ h' => (h'.tail 0)) _ _ _ _ ?_
  replace hHeld := HM.out
  refine so 3 rfl fun K hK => ?_
  clear hHeld
  go_simp
  refine (HU0.out _).mono ?_
  rintro e wy3 ⟨A0, c0, rfl, hr, hb⟩
  replace HM := Lib.hid (show Lows w [rdL A0 4 (littleL s 4), rdL (some ⟨g4, 0, none⟩) 4 (msHead 3), blkL w.heap.size 40 (MsgM.mk [s] bs).cells] wy3 from (HM.out.below hb).cons (rdL A0 4 (littleL s 4)) (hr))
  clear hb
  go_wp2_with fail
  refine hK.out _ _ (HM.out.tail 0) (fun hHeld => ?_)
  clear hK K
  (try simp only [Act.put, sA, s0, s1])
  refine wpAnyH_stronger (T := fun W' => Lows w [rdL A0 4 (littleL s 4), rdL (some ⟨g4, 0, none⟩) 4 (msHead 3), blkL w.heap.size 40 (MsgM.mk [s] bs).cells] W') (fun _ h' => (h'.tail 0)) _ _ _ _ ?_
  replace hHeld := HM.out
  refine so 8 rfl fun K hK => ?_
  clear hHeld
  go_simp
  have hm9 := HM.out.alloc 29 #[.slice (some ⟨g4, 0, none⟩) 4 4, .slice A0 4 c0, .slice (some ⟨w.heap.size, 1, none⟩) 24 24, .slice (some ⟨w.heap.size, 25, none⟩) 32 32] ([.slice (some ⟨g4, 0, none⟩) 4 4, .slice A0 4 c0, .slice (some ⟨w.heap.size, 1, none⟩) 24 24, .slice (some ⟨w.heap.size, 25, none⟩) 32 32]) rfl
  generalize wy3.alloc (.cells #[.slice (some ⟨g4, 0, none⟩) 4 4, .slice A0 4 c0, .slice (some ⟨w.heap.size, 1, none⟩) 24 24, .slice (some ⟨w.heap.size, 25, none⟩) 32 32] 29) = wy4 at hm9 ⊢
  generalize wy3.heap.size = g7 at hm9 ⊢
  replace HM := Lib.hid (show Lows w [blkL g7 29 ([.slice (some ⟨g4, 0, none⟩) 4 4, .slice A0 4 c0, .slice (some ⟨w.heap.size, 1, none⟩) 24 24, .slice (some ⟨w.heap.size, 25, none⟩) 32 32]), rdL A0 4 (littleL s 4), rdL (some ⟨g4, 0, none⟩) 4 (msHead 3), blkL w.heap.size 40 (MsgM.mk [s] bs).cells] wy4 from hm9)
  clear hm9
  refine hK.out _ _ (HM.out.tail 0) (fun hHeld => ?_)
  clear hK K
  (try simp only [Act.put, sA, s0, s1])
  refine wpAnyH_stronger (T := fun W' => Lows w [blkL g7 29 ([.slice (some ⟨g4, 0, none⟩) 4 4, .slice A0 4 c0, .slice (some ⟨w.heap.size, 1, none⟩) 24 24, .slice (some ⟨w.heap.size, 25, none⟩) 32 32]), rdL A0 4 (littleL s 4), rdL (some ⟨g4, 0, none⟩) 4 (msHead 3), blkL w.heap.size 40 (MsgM.mk [s] bs).cells] W') (fun _ h' => (h'.tail 0)) _ _ _ _ ?_
  replace hHeld := HM.out
  refine so 9 rfl fun K hK => ?_
  clear hHeld
  go_simp
  refine (refJoin_new g7 29 [⟨(some ⟨g4, 0, none⟩), 4, 4, msHead 3⟩, ⟨A0, 4, c0, littleL s 4⟩, ⟨(some ⟨w.heap.size, 1, none⟩), 24, 24, (bs.drop 0).take 24⟩, ⟨(some ⟨w.heap.size, 25, none⟩), 32, 32, (bs.drop 24).take 32⟩] 4 rfl (by omega) (encB 3 (MsgM.mk [s] bs)) HFL.out 64 HLEN.out (by omega) _ (HM.out.blk 0 rfl) (by
   intro p hp
   simp only [List.mem_cons, List.not_mem_nil, or_false] at hp
   rcases hp with rfl | rfl | rfl | rfl
   · exact HM.out.rd 2 rfl
   · exact HM.out.rd 1 rfl
   · exact msg_rd (HM.out.blk 3 rfl) HOK.out 1 0 24 rfl (by decide)
   · exact msg_rd (HM.out.blk 3 rfl) HOK.out 25 24 32 rfl (by decide)
   )).mono ?_
  rintro e wy5 ⟨A9, c9, rfl, hc1, hc2, hr, hb⟩
  have HRES := Lib.hid (And.intro hc1 (And.intro hc2 (And.intro (hr.from_ HM.out.size) (HM.out.below hb).bel)))
  replace HM := Lib.hid (show Lows w [blkL g7 29 ([.slice (some ⟨g4, 0, none⟩) 4 4, .slice A0 4 c0, .slice (some ⟨w.heap.size, 1, none⟩) 24 24, .slice (some ⟨w.heap.size, 25, none⟩) 32 32]), rdL A0 4 (littleL s 4), rdL (some ⟨g4, 0, none⟩) 4 (msHead 3), blkL w.heap.size 40 (MsgM.mk [s] bs).cells] wy5 from HM.out.below hb)
  clear hr hb hc1 hc2
  go_wp2_with fail
  refine hK.out _ _ (HM.out) (fun hHeld => ?_)
  clear hK K
  (try simp only [Act.put, sA, s0, s1])
  refine tf (v := ?_) 10 rfl (Or.inl ⟨by rfl, ?_⟩) ?_
  rotate_left
  · (intro w hSw; (try dsimp only at hSw); go_simp; try with_reducible rfl)
  (try simp only [Act.put, sA, s0, s1])
  refine wpAnyH_done (by kernel_rfl) ?_ _
  clear HM hHeld
  go_wp2_with fail
  go_ret
  exact ⟨A9, c9, rfl, HRES.out.1, HRES.out.2.1, HRES.out.2.2.1, HRES.out.2.2.2⟩
 ·
  clear hHeld
  go_simp
  refine (HU0.out _).mono ?_
  rintro e wy2 ⟨A0, c0, rfl, hr, hb⟩
  replace HM := Lib.hid (show Lows w [rdL A0 4 (littleL s 4), blkL w.heap.size 40 (MsgM.mk [s] bs).cells] wy2 from (HM.out.below hb).cons (rdL A0 4 (littleL s 4)) (hr))
  clear hb
  go_wp2_with fail
  refine hK.out _ _ (HM.out.tail 0) (fun hHeld => ?_)
  clear hK K
  (try simp only [Act.put, sA, s0, s1])
  refine wpAnyH_stronger (T := fun W' => Lows w [rdL A0 4 (littleL s 4), blkL w.heap.size 40 (MsgM.mk [s] bs).cells] W') (fun _ h' => (h'.tail 0)) _ _ _ _ ?_
  replace hHeld := HM.out
  refine so 0 rfl fun K hK => ?_
  clear hHeld
  go_simp
  have hm9 := HM.out.alloc 5 #[.int .u8 3, .int .u8 0, .int .u8 0, .int .u8 0] ((msHead 3).map u8v) rfl
  generalize wy2.alloc (.cells #[.int .u8 3, .int .u8 0, .int .u8 0, .int .u8 0] 5) = wy3 at hm9 ⊢
  generalize wy2.heap.size = g4 at hm9 ⊢
  replace HM := Lib.hid (show Lows w [rdL (some ⟨g4, 0, none⟩) 4 (msHead 3), rdL A0 4 (littleL s 4), blkL w.heap.size 40 (MsgM.mk [s] bs).cells] wy3 from (hm9.cons (rdL (some ⟨g4, 0, none⟩) 4 (msHead 3)) (blk_all (hm9.blk 0 rfl) rfl)).tail 1)
  clear hm9
  refine hK.out _ _ (HM.out.tail 0) (fun hHeld => ?_)
  clear hK K
  (try simp only [Act.put, sA, s0, s1])
  refine wpAnyH_stronger (T := fun W' => Lows w [rdL (some ⟨g4, 0, none⟩) 4 (msHead 3), rdL A0 4 (littleL s 4), blkL w.heap.size 40 (MsgM.mk [s] bs).cells] W') (fun _ h' => (h'.tail 0)) _ _ _ _ ?_
  replace hHeld := HM.out
  refine so 8 rfl fun K hK => ?_
  clear hHeld
  go_simp
  have hm9 := HM.out.alloc 29 #[.slice (some ⟨g4, 0, none⟩) 4 4, .slice A0 4 c0, .slice (some ⟨w.heap.size, 1, none⟩) 24 24, .slice (some ⟨w.heap.size, 25, none⟩) 32 32] ([.slice (some ⟨g4, 0, none⟩) 4 4, .slice A0 4 c0, .slice (some ⟨w.heap.size, 1, none⟩) 24 24, .slice (some ⟨w.heap.size, 25, none⟩) 32 32]) rfl
  generalize wy3.alloc (.cells #[.slice (some ⟨g4, 0, none⟩) 4 4, .slice A0 4 c0, .slice (some ⟨w.heap.size, 1, none⟩) 24 24, .slice (some ⟨w.heap.size, 25, none⟩) 32 32] 29) = wy4 at hm9 ⊢
  generalize wy3.heap.size = g7 at hm9 ⊢
  replace HM := Lib.hid (show Lows w [blkL g7 29 ([.slice (some ⟨g4, 0, none⟩) 4 4, .slice A0 4 c0, .slice (some ⟨w.heap.size, 1, none⟩) 24 24, .slice (some ⟨w.heap.size, 25, none⟩) 32 32]), rdL (some ⟨g4, 0, none⟩) 4 (msHead 3), rdL A0 4 (littleL s 4), blkL w.heap.size 40 (MsgM.mk [s] bs).cells] wy4 from hm9)
  clear hm9
  refine hK.out _ _ (HM.out.tail 0) (fun hHeld => ?_)
  clear hK K
  (try simp only [Act.put, sA, s0, s1])
  refine wpAnyH_stronger (T := fun W' => Lows w [blkL g7 29 ([.slice (some ⟨g4, 0, none⟩) 4 4, .slice A0 4 c0, .slice (some ⟨w.heap.size, 1, none⟩) 24 24, .slice (some ⟨w.heap.size, 25, none⟩) 32 32]), rdL (some ⟨g4, 0, none⟩) 4 (msHead 3), rdL A0 4 (littleL s 4), blkL w.heap.size 40 (MsgM.mk [s] bs).cells] W') (fun _ h' => (h'.tail 0)) _ _ _ _ ?_
  replace hHeld := HM.out
  refine so 9 rfl fun K hK => ?_
  clear hHeld
  go_simp
  refine (refJoin_new g7 29 [⟨(some ⟨g4, 0, none⟩), 4, 4, msHead 3⟩, ⟨A0, 4, c0, littleL s 4⟩, ⟨(some ⟨w.heap.size, 1, none⟩), 24, 24, (bs.drop 0).take 24⟩, ⟨(some ⟨w.heap.size, 25, none⟩), 32, 32, (bs.drop 24).take 32⟩] 4 rfl (by omega) (encB 3 (MsgM.mk [s] bs)) HFL.out 64 HLEN.out (by omega) _ (HM.out.blk 0 rfl) (by
   intro p hp
   simp only [List.mem_cons, List.not_mem_nil, or_false] at hp
   rcases hp with rfl | rfl | rfl | rfl
   · exact HM.out.rd 1 rfl
   · exact HM.out.rd 2 rfl
   · exact msg_rd (HM.out.blk 3 rfl) HOK.out 1 0 24 rfl (by decide)
   · exact msg_rd (HM.out.blk 3 rfl) HOK.out 25 24 32 rfl (by decide)
   )).mono ?_
  rintro e wy5 ⟨A9, c9, rfl, hc1, hc2, hr, hb⟩
  have HRES := Lib.hid (And.intro hc1 (And.intro hc2 (And.intro (hr.from_ HM.out.size) (HM.out.below hb).bel)))
  replace HM := Lib.hid (show Lows w [blkL g7 29 ([.slice (some ⟨g4, 0, none⟩) 4 4, .slice A0 4 c0, .slice (some ⟨w.heap.size, 1, none⟩) 24 24, .slice (some ⟨w.heap.size, 25, none⟩) 32 32]), rdL (some ⟨g4, 0, none⟩) 4 (msHead 3), rdL A0 4 (littleL s 4), blkL w.heap.size 40 (MsgM.mk [s] bs).cells] wy5 from HM.out.below hb)
  clear hr hb hc1 hc2
  go_wp2_with fail
  refine hK.out _ _ (HM.out) (fun hHeld => ?_)
  clear hK K
  (try simp only [Act.put, sA, s0, s1])
  refine tf (v := ?_) 10 rfl (Or.inl ⟨by rfl, ?_⟩) ?_
  rotate_left
  · (intro w hSw; (try dsimp only at hSw); go_simp; try with_reducible rfl)
  (try simp only [Act.put, sA, s0, s1])
  refine wpAnyH_done (by kernel_rfl) ?_ _
  clear HM hHeld
  go_wp2_with fail
  go_ret
  exact ⟨A9, c9, rfl, HRES.out.1, HRES.out.2.1, HRES.out.2.2.1, HRES.out.2.2.2⟩
set_option maxRecDepth 100000 in
set_option maxHeartbeats 8000000 in
theorem refKind_any : MsKindC 36 := by
 intro A n c l _h1 _h2 hn6 w hr
 have hl : l.length = n := hr.1
 by_cases h4 : n < 4
 ·
  have d4 : decide ((n : Int) < 4) = true := by simp; omega
  have hK : kindB l = 0 := by rw [kindB, if_pos (by omega)]
  clear hl hr
  go_enter Tryz.func36, Tryz.ntmps36
  go_wp2
  go_ret
  exact ⟨ret_int (by rw [hK]; rfl), Below.refl _ _⟩
 have d4 : decide ((n : Int) < 4) = false := by simp; omega
 obtain ⟨b, off, rfl, hbl, hc⟩ := hr.at_ (by omega)
 have f0 := hr.byt 0 (by omega)
 have f1 := hr.byt 1 (by omega)
 have f2 := hr.byt 2 (by omega)
 have f3 := hr.byt 3 (by omega)
 rw [Nat.add_zero] at f0
 have b3 : (3 : Int) < (n : Int) := by omega
 have b2 : (2 : Int) < (n : Int) := by omega
 have b1 : (1 : Int) < (n : Int) := by omega
 have b0 : (0 : Int) < (n : Int) := by omega
 clear hr hc hbl
 obtain ⟨x0, hx0⟩ : ∃ x, l.getD 0 0 = x := ⟨_, rfl⟩
 obtain ⟨y1, hy1⟩ : ∃ x, l.getD 1 0 = x := ⟨_, rfl⟩
 obtain ⟨y2, hy2⟩ : ∃ x, l.getD 2 0 = x := ⟨_, rfl⟩
 obtain ⟨y3, hy3⟩ : ∃ x, l.getD 3 0 = x := ⟨_, rfl⟩
 rw [hx0] at f0
 rw [hy1] at f1
 rw [hy2] at f2
 rw [hy3] at f3
 by_cases hz1 : y1 = 0
 case neg =>
  have ez : ((y1.toNat : Int) != 0) = true := by rw [bne_iff_ne]; intro h; exact hz1 (UInt8.toNat.inj (by simpa using (by omega : y1.toNat = 0)))
  have hK : kindB l = 0 := by rw [kindB, if_neg (by omega), if_pos]; first | exact .inl (by rw [hy1]; exact hz1) | exact .inr (.inl (by rw [hy2]; exact hz1)) | exact .inr (.inr (by rw [hy3]; exact hz1))
  clear hl hx0 hy1 hy2 hy3 hz1
  go_enter Tryz.func36, Tryz.ntmps36
  go_wp2
  go_ret
  exact ⟨ret_int (by rw [hK]; rfl), Below.refl _ _⟩
 subst hz1
 by_cases hz2 : y2 = 0
 case neg =>
  have ez : ((y2.toNat : Int) != 0) = true := by rw [bne_iff_ne]; intro h; exact hz2 (UInt8.toNat.inj (by simpa using (by omega : y2.toNat = 0)))
  have hK : kindB l = 0 := by rw [kindB, if_neg (by omega), if_pos]; first | exact .inl (by rw [hy1]; exact hz2) | exact .inr (.inl (by rw [hy2]; exact hz2)) | exact .inr (.inr (by rw [hy3]; exact hz2))
  clear hl hx0 hy1 hy2 hy3 hz2
  go_enter Tryz.func36, Tryz.ntmps36
  go_wp2
  go_ret
  exact ⟨ret_int (by rw [hK]; rfl), Below.refl _ _⟩
 subst hz2
 by_cases hz3 : y3 = 0
 case neg =>
  have ez : ((y3.toNat : Int) != 0) = true := by rw [bne_iff_ne]; intro h; exact hz3 (UInt8.toNat.inj (by simpa using (by omega : y3.toNat = 0)))
  have hK : kindB l = 0 := by rw [kindB, if_neg (by omega), if_pos]; first | exact .inl (by rw [hy1]; exact hz3) | exact .inr (.inl (by rw [hy2]; exact hz3)) | exact .inr (.inr (by rw [hy3]; exact hz3))
  clear hl hx0 hy1 hy2 hy3 hz3
  go_enter Tryz.func36, Tryz.ntmps36
  go_wp2
  go_ret
  exact ⟨ret_int (by rw [hK]; rfl), Below.refl _ _⟩
 subst hz3
 have hk0 := kindB_some (by omega) hy1 hy2 hy3
 rw [hx0] at hk0
 clear hx0 hy1 hy2 hy3
 go_enter Tryz.func36, Tryz.ntmps36
 go_upto_region 4 with fail
 by_cases h1 : x0 = 1
 ·
  subst h1
  by_cases hn : n = 148
  ·
   subst hn
   have hK : kindB l = 1 := by rw [hk0, hl]; rfl
   clear hk0 hl
   go_wp2
   go_ret
   exact ⟨ret_int (by rw [hK]; rfl), Below.refl _ _⟩
  ·
   have en : ((n : Int) == 148) = false := by rw [beq_eq_false_iff_ne]; omega
   have hK : kindB l = 0 := by rw [hk0, hl, if_neg]; intro h; rcases h with h | h | h | h; all_goals (first | exact absurd h.1 (by decide) | exact hn h.2)
   clear hk0 hl
   go_wp2
   go_ret
   exact ⟨ret_int (by rw [hK]; rfl), Below.refl _ _⟩
 have e1 : ((x0.toNat : Int) == 1) = false := by rw [beq_eq_false_iff_ne]; intro h; exact h1 (UInt8.toNat.inj (by simpa using (by omega : x0.toNat = 1)))
 by_cases h2 : x0 = 2
 ·
  subst h2
  by_cases hn : n = 92
  ·
   subst hn
   have hK : kindB l = 2 := by rw [hk0, hl]; rfl
   clear hk0 hl
   go_wp2
   go_ret
   exact ⟨ret_int (by rw [hK]; rfl), Below.refl _ _⟩
  ·
   have en : ((n : Int) == 92) = false := by rw [beq_eq_false_iff_ne]; omega
   have hK : kindB l = 0 := by rw [hk0, hl, if_neg]; intro h; rcases h with h | h | h | h; all_goals (first | exact absurd h.1 (by decide) | exact hn h.2)
   clear hk0 hl
   go_wp2
   go_ret
   exact ⟨ret_int (by rw [hK]; rfl), Below.refl _ _⟩
 have e2 : ((x0.toNat : Int) == 2) = false := by rw [beq_eq_false_iff_ne]; intro h; exact h2 (UInt8.toNat.inj (by simpa using (by omega : x0.toNat = 2)))
 by_cases h3 : x0 = 3
 ·
  subst h3
  by_cases hn : n = 64
  ·
   subst hn
   have hK : kindB l = 3 := by rw [hk0, hl]; rfl
   clear hk0 hl
   go_wp2
   go_ret
   exact ⟨ret_int (by rw [hK]; rfl), Below.refl _ _⟩
  ·
   have en : ((n : Int) == 64) = false := by rw [beq_eq_false_iff_ne]; omega
   have hK : kindB l = 0 := by rw [hk0, hl, if_neg]; intro h; rcases h with h | h | h | h; all_goals (first | exact absurd h.1 (by decide) | exact hn h.2)
   clear hk0 hl
   go_wp2
   go_ret
   exact ⟨ret_int (by rw [hK]; rfl), Below.refl _ _⟩
 have e3 : ((x0.toNat : Int) == 3) = false := by rw [beq_eq_false_iff_ne]; intro h; exact h3 (UInt8.toNat.inj (by simpa using (by omega : x0.toNat = 3)))
 by_cases h4 : x0 = 4
 ·
  subst h4
  by_cases hn : 32 ≤ n
  ·
   have en : decide ((n : Int) ≥ 32) = true := by simp; omega
   by_cases hm : n ≤ 2100
   ·
    have em : decide ((n : Int) ≤ 2100) = true := by simp; omega
    have hK : kindB l = 4 := by rw [hk0, hl, if_pos (.inr (.inr (.inr ⟨rfl, hn, hm⟩)))]; rfl
    clear hk0 hl
    go_wp2
    go_ret
    exact ⟨ret_int (by rw [hK]; rfl), Below.refl _ _⟩
   ·
    have em : decide ((n : Int) ≤ 2100) = false := by simp; omega
    have hK : kindB l = 0 := by rw [hk0, hl, if_neg]; intro h; rcases h with h | h | h | h; all_goals (first | exact absurd h.1 (by decide) | exact hm h.2.2)
    clear hk0 hl
    go_wp2
    go_ret
    exact ⟨ret_int (by rw [hK]; rfl), Below.refl _ _⟩
  ·
   have en : decide ((n : Int) ≥ 32) = false := by simp; omega
   have hK : kindB l = 0 := by rw [hk0, hl, if_neg]; intro h; rcases h with h | h | h | h; all_goals (first | exact absurd h.1 (by decide) | exact hn h.2.1)
   clear hk0 hl
   go_wp2
   go_ret
   exact ⟨ret_int (by rw [hK]; rfl), Below.refl _ _⟩
 have e4 : ((x0.toNat : Int) == 4) = false := by rw [beq_eq_false_iff_ne]; intro h; exact h4 (UInt8.toNat.inj (by simpa using (by omega : x0.toNat = 4)))
 have hK : kindB l = 0 := by rw [hk0, if_neg]; intro h; rcases h with h | h | h | h; all_goals (first | exact h1 (UInt8.toNat.inj h.1) | exact h2 (UInt8.toNat.inj h.1) | exact h3 (UInt8.toNat.inj h.1) | exact h4 (UInt8.toNat.inj h.1))
 clear hk0 hl
 go_wp2
 go_ret
 exact ⟨ret_int (by rw [hK]; rfl), Below.refl _ _⟩
/-- the first o bytes of B, zeros behind them -/
def msD (B : List UInt8) (N o : Nat) : List UInt8 := B.take o ++ List.replicate (N - o) 0
theorem msD_length (B : List UInt8) (N o : Nat) (hB : B.length = N) (ho : o ≤ N) : (msD B N o).length = N := by
 rw [msD, List.length_append, List.length_take, List.length_replicate]; omega
theorem msD_zero (B : List UInt8) (N : Nat) : msD B N 0 = List.replicate N 0 := by rw [msD, List.take_zero, List.nil_append, Nat.sub_zero]
theorem msD_all (B : List UInt8) (N : Nat) (hB : B.length = N) : msD B N N = B := by rw [msD, Nat.sub_self, List.replicate_zero, List.append_nil, List.take_of_length_le (by omega)]
theorem msD_step (B : List UInt8) (N o z : Nat) (hB : B.length = N) (h : o + z ≤ N) : putL (msD B N o) o ((B.drop o).take z) = msD B N (o + z) := by
 have hx : ((B.drop o).take z).length = z := by rw [List.length_take, List.length_drop]; omega
 have h1 : (msD B N o).take o = B.take o := by
  rw [msD, List.take_append_of_le_length (by rw [List.length_take]; omega), List.take_of_length_le (by rw [List.length_take]; omega)]
 have h2 : (msD B N o).drop (o + z) = List.replicate (N - (o + z)) 0 := by
  rw [msD, List.drop_append, List.drop_of_length_le (by rw [List.length_take]; omega), List.nil_append, List.length_take, Nat.min_eq_left (by omega), List.drop_replicate]
  congr 1
  omega
 rw [putL, hx, h1, h2, msD, List.take_add]
theorem msg_put (nums : List Nat) (D xs : List UInt8) (q o : Nat) (hq : nums.length + o = q) (_h : o + xs.length ≤ D.length) :
 ((MsgM.mk nums D).cells).take q ++ xs.map u8v ++ ((MsgM.mk nums D).cells).drop (q + (xs.map u8v).length) = (MsgM.mk nums (putL D o xs)).cells := by
 subst hq
 have hl : (nums.map u32c).length = nums.length := List.length_map ..
 simp only [MsgM.cells, putL, List.length_map]
 rw [List.take_append, List.drop_append, hl, List.take_of_length_le (by omega), List.drop_of_length_le (by omega), List.nil_append, show nums.length + o - nums.length = o by omega, show nums.length + o + xs.length - nums.length = o + xs.length by omega]
 simp only [List.map_append, List.map_take, List.map_drop, List.append_assoc]
theorem addrOf_some (b off i c : Nat) (h : i < c) : addrOf (some ⟨b, off, none⟩) i c = some ⟨b, off + i, none⟩ := by
 rw [addrOf, if_neg (by omega), Option.map_some, Go.WideShapes.add_plain, Nat.mul_one]
theorem step_copy_blk {P : Program} {w : World} {ops : Array Oper} {o : Oper} {a : Act} {K : Act → World → Prop} {Q : Exit → Act → World → Prop} {E : Prop} (hgd : o.guard = none) (d s : Operand) (dT sT : TypeId)
 (ho : o.op = .call { callee := .builtin .copy, args := #[d, s], argTypes := #[dT, sT] }) (elem : TypeId) (hu : P.underlying dT = some (.slice elem)) (hsz : (P.info? elem).map (·.size) = some 1)
 (g off dLen dCap : Nat) (ad : Addr) (sLen sCap : Nat) (hd : a.eval d = .slice (some ⟨g, off, none⟩) dLen dCap) (hs : a.eval s = .slice (some ad) sLen sCap)
 (cur : List Value) (t : TypeId) (hg : Blk w g t cur) (cs : List Value) (hn : cs.length = Nat.min sLen dLen)
 (hsrc : ∀ j v, cs[j]? = some v → w.cell? (ad.add j) = some v) (hfit : off + cs.length ≤ cur.length) (h1 : ∀ v ∈ cs, v.oneCell' = true) (new : List Value) (hnew : cur.take off ++ cs ++ cur.drop (off + cs.length) = new)
 (h : ∀ w', Blk w' g t new → w.grownBy w' (some g) → K (a.put o.dst (goInt cs.length)) w') : if Region.wanted o (yielded ops a.tmps) = true then Oper.wp P o a w K Q else E := by
 subst hnew
 exact step_copy_bytes w hgd d s dT sT ho elem hu hsz g off dLen dCap ad sLen sCap hd hs cur t hg cs hn hsrc hfit h1 h
theorem seg_src {w : World} {b off n : Nat} {l : List UInt8} {B : Nat} (h : Rd w B (some ⟨b, off, none⟩) n l) (s z : Nat) (hz : s + z ≤ n) : ∀ j v, (((l.drop s).take z).map u8v)[j]? = some v → w.cell? ((⟨b, off + s, none⟩ : Addr).add j) = some v :=
 ((h.drop s b off rfl (by omega)).take (m := z) (by omega)).src
theorem built_ck (r : Nat) (nn : List UInt8) (hn : nn.length = 24) : Tryz.prog.built 40 [(0, .int .u32 (r : Int)), (1, .agg (nn.map u8v).toArray)] = some (MsgM.mk [r] (nn ++ List.replicate 32 0)).cells.toArray := by
 rw [built_of 40 [1, 24, 32] [[.int .u32 0], (List.replicate 24 (0 : UInt8)).map u8v, (List.replicate 32 (0 : UInt8)).map u8v] (by kernel_rfl) #[(0, 1), (1, 24), (25, 32)] (fun parts => by kernel_rfl) (fun i h => by
  match i, h with
  | 0, _ => rfl
  | 1, _ => rfl
  | 2, _ => rfl) _ (fun p hp => by
  simp only [List.mem_cons, List.not_mem_nil, or_false] at hp
  rcases hp with rfl | rfl
  · rfl
  · simp [Value.cells, hn])]
 simp [MsgM.cells, Value.cells, u32c]
theorem put_ck (r : Nat) (nn sl : List UInt8) (hn : nn.length = 24) (hs : sl.length = 32) : (MsgM.mk [r] (nn ++ List.replicate 32 0)).cells.take 25 ++ sl.map u8v ++ (MsgM.mk [r] (nn ++ List.replicate 32 0)).cells.drop (25 + (sl.map u8v).length) = (MsgM.mk [r] (nn ++ sl)).cells := by
 have h25 : ([u32c r] ++ nn.map u8v).length = 25 := by rw [List.length_append, List.length_map, hn]; rfl
 have e : (MsgM.mk [r] (nn ++ List.replicate 32 0)).cells = ([u32c r] ++ nn.map u8v) ++ (List.replicate 32 (0 : UInt8)).map u8v := by simp [MsgM.cells]
 rw [e, List.take_left' h25, List.length_map, hs, List.drop_of_length_le (by rw [List.length_append, h25, List.length_map, List.length_replicate]; exact Nat.le_refl _)]
 simp [MsgM.cells]
set_option maxRecDepth 100000 in
set_option maxHeartbeats 8000000 in
theorem refReplyC : McReplyC 4 := by
 intro p nn ck mac hp hn hck hmac r hr w _hlv
 have HP := Lib.hid hp
 have HN := Lib.hid hn
 have HK := Lib.hid hck
 have HMC := Lib.hid hmac
 have hok := replyM_ok (p := p) (mac := mac) hn hck hr
 have hM2 : replyM p nn ck mac r = MsgM.mk [r] (nn ++ xsealL (hideB p) nn ck mac) := rfl
 have hsl : (xsealL (hideB p) nn ck mac).length = 32 := by rw [xsealL_length, hck]
 have hhd := fun W : World => refHidden_any p hp W
 have hxs := fun (gc gm : Nat) (W : World) (h1 : Rd W W.heap.size (some ⟨gc, 0, none⟩) 16 ck) (h2 : Rd W W.heap.size (some ⟨gm, 0, none⟩) 16 mac) => refXSeal_any (hideB p) nn (hideB_length p) hn (some ⟨gc, 0, none⟩) (some ⟨gm, 0, none⟩) 16 16 16 16 ck mac (by omega) (by omega) W h1 h2
 have hen := refEncN3 _ hok
 rw [hM2] at hen hok ⊢
 generalize xsealL (hideB p) nn ck mac = sl at hxs hen hsl hok ⊢
 generalize hideB p = hk at hhd hxs
 have hlm1 : (MsgM.mk [r] (nn ++ List.replicate 32 0)).cells.length = 57 := by simp [MsgM.cells, hn]
 have hlm2 : (MsgM.mk [r] (nn ++ sl)).cells.length = 57 := by simp [MsgM.cells, hn, hsl]
 have HLM1 := Lib.hid hlm1
 have HSLN := Lib.hid hsl
 have HPUT := Lib.hid (put_ck r nn sl hn hsl)
 have hbt := built_ck r nn hn
 have HUM1 := Lib.hid (show (Tryz.prog.info? 40).map (·.size) = some (MsgM.mk [r] (nn ++ List.replicate 32 0)).cells.length from by rw [hlm1]; kernel_rfl)
 have HUM2 := Lib.hid (show (Tryz.prog.info? 40).map (·.size) = some (MsgM.mk [r] (nn ++ sl)).cells.length from by rw [hlm2]; kernel_rfl)
 obtain ⟨cp, hcp⟩ : ∃ z, (p.map u8v).toArray = z := ⟨_, rfl⟩
 obtain ⟨cn, hcn⟩ : ∃ z, (nn.map u8v).toArray = z := ⟨_, rfl⟩
 obtain ⟨cc, hcc⟩ : ∃ z, (ck.map u8v).toArray = z := ⟨_, rfl⟩
 obtain ⟨cm, hcm⟩ : ∃ z, (mac.map u8v).toArray = z := ⟨_, rfl⟩
 obtain ⟨chk, hchk⟩ : ∃ z, (hk.map u8v).toArray = z := ⟨_, rfl⟩
 obtain ⟨cM1, hcM1⟩ : ∃ z, (MsgM.mk [r] (nn ++ List.replicate 32 0)).cells.toArray = z := ⟨_, rfl⟩
 obtain ⟨cM2, hcM2⟩ : ∃ z, (MsgM.mk [r] (nn ++ sl)).cells.toArray = z := ⟨_, rfl⟩
 rw [hcn, hcM1] at hbt
 rw [hcM2] at hen
 rw [hcp, hchk] at hhd
 rw [hchk, hcn] at hxs
 have HBT := Lib.hid hbt
 have HEN := Lib.hid hen
 have HHD := Lib.hid hhd
 have HXS := Lib.hid hxs
 have HCM1 := Lib.hid hcM1
 have HCM2 := Lib.hid hcM2
 have HCP := Lib.hid hcp
 have HCN := Lib.hid hcn
 rw [hcp, hcn, hcc, hcm]
 have HM := Lib.hid (show Mem w [blkE (w.heap.size + 1 + 1 + 1) 27 (mac.map u8v), blkE (w.heap.size + 1 + 1) 27 (ck.map u8v), blkE (w.heap.size + 1) 25 (nn.map u8v), blkE w.heap.size 23 (p.map u8v)] ((((w.alloc (.cells cp 23)).alloc (.cells cn 25)).alloc (.cells cc 27)).alloc (.cells cm 27)) from (((((Mem.nil w).alloc rfl 23 cp (p.map u8v) hcp.symm).alloc (by simp) 25 cn (nn.map u8v) hcn.symm).alloc (by simp) 27 cc (ck.map u8v) hcc.symm).alloc (by simp) 27 cm (mac.map u8v) hcm.symm))
 clear hcp hcn hcc hcm hchk hcM1 hcM2 hbt hen hhd hxs hlm1 hlm2 hsl hok hM2 hp hn hck hmac hr
 go_enter Tryz.func4, Tryz.ntmps4
 go_upto_region 1 with fail
 generalize ((((w.alloc (.cells cp 23)).alloc (.cells cn 25)).alloc (.cells cc 27)).alloc (.cells cm 27)) = w1 at HM ⊢
 have HMZ := Lib.hid (show Mem w [blkE w1.heap.size 40 (msg0 3).cells, blkE (w.heap.size + 1 + 1 + 1) 27 (mac.map u8v), blkE (w.heap.size + 1 + 1) 27 (ck.map u8v), blkE (w.heap.size + 1) 25 (nn.map u8v), blkE w.heap.size 23 (p.map u8v)] (w1.alloc (.cells #[.int .u32 0, .int .u8 0, .int .u8 0, .int .u8 0, .int .u8 0, .int .u8 0, .int .u8 0, .int .u8 0, .int .u8 0, .int .u8 0, .int .u8 0, .int .u8 0, .int .u8 0, .int .u8 0, .int .u8 0, .int .u8 0, .int .u8 0, .int .u8 0, .int .u8 0, .int .u8 0, .int .u8 0, .int .u8 0, .int .u8 0, .int .u8 0, .int .u8 0, .int .u8 0, .int .u8 0, .int .u8 0, .int .u8 0, .int .u8 0, .int .u8 0, .int .u8 0, .int .u8 0, .int .u8 0, .int .u8 0, .int .u8 0, .int .u8 0, .int .u8 0, .int .u8 0, .int .u8 0, .int .u8 0, .int .u8 0, .int .u8 0, .int .u8 0, .int .u8 0, .int .u8 0, .int .u8 0, .int .u8 0, .int .u8 0, .int .u8 0, .int .u8 0, .int .u8 0, .int .u8 0, .int .u8 0, .int .u8 0, .int .u8 0, .int .u8 0] 40)) from HM.out.alloc rfl 40 #[.int .u32 0, .int .u8 0, .int .u8 0, .int .u8 0, .int .u8 0, .int .u8 0, .int .u8 0, .int .u8 0, .int .u8 0, .int .u8 0, .int .u8 0, .int .u8 0, .int .u8 0, .int .u8 0, .int .u8 0, .int .u8 0, .int .u8 0, .int .u8 0, .int .u8 0, .int .u8 0, .int .u8 0, .int .u8 0, .int .u8 0, .int .u8 0, .int .u8 0, .int .u8 0, .int .u8 0, .int .u8 0, .int .u8 0, .int .u8 0, .int .u8 0, .int .u8 0, .int .u8 0, .int .u8 0, .int .u8 0, .int .u8 0, .int .u8 0, .int .u8 0, .int .u8 0, .int .u8 0, .int .u8 0, .int .u8 0, .int .u8 0, .int .u8 0, .int .u8 0, .int .u8 0, .int .u8 0, .int .u8 0, .int .u8 0, .int .u8 0, .int .u8 0, .int .u8 0, .int .u8 0, .int .u8 0, .int .u8 0, .int .u8 0, .int .u8 0] (msg0 3).cells (by kernel_rfl))
 go_upto_region 2 with (first | (refine wpList_load_obj rfl 25 (.tmp 6) rfl (w.heap.size + 1) 0 rfl (nn.map u8v) (HM.out.blk 2 rfl).all _ Tryz.underlying25 rfl (xc_cellsL nn HN.out) ?_; rw [HCN.out]) | (refine wpList_build_as rfl 40 [(0, .tmp 12), (1, .tmp 13)] rfl cM1 ?_ ?_; exact HBT.out) | (refine wpList_store_blk rfl 40 (.tmp 11) (.tmp 14) rfl w1.heap.size (MsgM.mk [r] (nn ++ List.replicate 32 0)).cells rfl (by show Value.agg cM1 = _; rw [HCM1.out]) 40 (msg0 3).cells (HMZ.out.blk 0 rfl) HUM1.out (by rw [HLM1.out, MsgM.cells_length (msg0_ok 3)]; rfl) (MsgM.one _) ?_; intro w2 hb2 hg2))
 (try simp only [Act.put])
 have hm2 := HMZ.out.put 0 rfl _ hg2 hb2
 generalize w1.heap.size = g11 at hm2 ⊢
 replace HM := Lib.hid (show Mem w [blkE g11 40 (MsgM.mk [r] (nn ++ List.replicate 32 0)).cells, blkE (w.heap.size + 1 + 1 + 1) 27 (mac.map u8v), blkE (w.heap.size + 1 + 1) 27 (ck.map u8v), blkE (w.heap.size + 1) 25 (nn.map u8v), blkE w.heap.size 23 (p.map u8v)] w2 from hm2)
 clear hm2 hb2 hg2 HMZ
 refine wp_region_held_drew (S := fun W' => Mem w [blkE (w.heap.size + 1 + 1 + 1) 27 (mac.map u8v), blkE (w.heap.size + 1 + 1) 27 (ck.map u8v), blkE (w.heap.size + 1) 25 (nn.map u8v), blkE w.heap.size 23 (p.map u8v)] W') (by kernel_rfl) (((HM.out.erase 0)).drew) (fun hHeld => ?_)
 replace HM := Lib.hid HM.out.drew
 generalize w2.drew = wd1 at HM hHeld ⊢
 refine tf (v := ?_) 0 rfl (Or.inl ⟨by rfl, ?_⟩) ?_
 rotate_left
 · (intro w hSw; (try dsimp only at hSw); go_simp; try with_reducible rfl)
 (try simp only [Act.put, sA, s0, s1])
 refine tf (v := ?_) 1 rfl (Or.inl ⟨by rfl, ?_⟩) ?_
 rotate_left
 · (intro w hSw; (try dsimp only at hSw); go_simp; try with_reducible rfl)
 (try simp only [Act.put, sA, s0, s1])
 refine tf (v := .agg cp) 2 rfl (by rw [← HCP.out]; exact yields_load_obj (by rfl) 23 (.tmp 5) rfl w.heap.size 0 rfl (p.map u8v) (fun w' hb => (Mem.blk hb 3 rfl).all) _ Tryz.underlying23 rfl (cells32 p HP.out)) ?_
 (try simp only [Act.put, sA, s0, s1])
 refine tf (v := .agg cn) 4 rfl (by rw [← HCN.out]; exact yields_load_obj (by rfl) 25 (.tmp 6) rfl (w.heap.size + 1) 0 rfl (nn.map u8v) (fun w' hb => (Mem.blk hb 2 rfl).all) _ Tryz.underlying25 rfl (xc_cellsL nn HN.out)) ?_
 (try simp only [Act.put, sA, s0, s1])
 refine tf (v := ?_) 5 rfl (Or.inl ⟨by rfl, ?_⟩) ?_
 rotate_left
 · (intro w hSw; (try dsimp only at hSw); go_simp; try with_reducible rfl)
 (try simp only [Act.put, sA, s0, s1])
 refine tf (v := ?_) 6 rfl (Or.inl ⟨by rfl, ?_⟩) ?_
 rotate_left
 · (intro w hSw; (try dsimp only at hSw); go_simp; try with_reducible rfl)
 (try simp only [Act.put, sA, s0, s1])
 refine so 3 rfl fun K hK => ?_
 clear hHeld
 go_simp
 refine (HHD.out _).mono ?_
 rintro e wy2 ⟨rfl, hb⟩
 replace HM := Lib.hid (show Mem w [blkE g11 40 (MsgM.mk [r] (nn ++ List.replicate 32 0)).cells, blkE (w.heap.size + 1 + 1 + 1) 27 (mac.map u8v), blkE (w.heap.size + 1 + 1) 27 (ck.map u8v), blkE (w.heap.size + 1) 25 (nn.map u8v), blkE w.heap.size 23 (p.map u8v)] wy2 from HM.out.below hb)
 clear hb
 go_wp2_with fail
 refine hK.out _ _ ((HM.out.erase 0)) (fun hHeld => ?_)
 clear hK K
 (try simp only [Act.put, sA, s0, s1])
 refine so 7 rfl fun K hK => ?_
 clear hHeld
 go_simp
 refine (HXS.out (w.heap.size + 1 + 1) (w.heap.size + 1 + 1 + 1) _ (blk_all (HM.out.blk 2 rfl) HK.out) (blk_all (HM.out.blk 1 rfl) HMC.out)).mono ?_
 rintro e wy3 ⟨A5, c5, rfl, ho, hb⟩
 obtain ⟨g5, rfl⟩ := (own_addr ho).2.2 (by omega)
 have HSR := Lib.hid (Rd.of_own ho)
 replace HM := Lib.hid (show Mem w [blkE g11 40 (MsgM.mk [r] (nn ++ List.replicate 32 0)).cells, blkE (w.heap.size + 1 + 1 + 1) 27 (mac.map u8v), blkE (w.heap.size + 1 + 1) 27 (ck.map u8v), blkE (w.heap.size + 1) 25 (nn.map u8v), blkE w.heap.size 23 (p.map u8v)] wy3 from HM.out.below hb)
 clear hb ho
 go_wp2_with fail
 refine hK.out _ _ ((HM.out.erase 0)) (fun hHeld => ?_)
 clear hK K
 (try simp only [Act.put, sA, s0, s1])
 refine so 8 rfl fun K hK => ?_
 clear hHeld
 refine step_copy_blk rfl (.tmp 16) (.tmp 22) 29 29 (by rfl) 5 Tryz.underlying29 (by kernel_rfl) g11 25 32 32 ⟨g5, 0, none⟩ 32 c5 (by rfl) (by rfl) (MsgM.mk [r] (nn ++ List.replicate 32 0)).cells 40 (HM.out.blk 0 rfl) (sl.map u8v) (by rw [List.length_map, HSLN.out]; rfl) HSR.out.src (by rw [List.length_map, HSLN.out, HLM1.out]; decide) (u8v_one _) (MsgM.mk [r] (nn ++ sl)).cells HPUT.out ?_
 intro wy4 hb hg
 replace HM := Lib.hid (show Mem w [blkE g11 40 (MsgM.mk [r] (nn ++ sl)).cells, blkE (w.heap.size + 1 + 1 + 1) 27 (mac.map u8v), blkE (w.heap.size + 1 + 1) 27 (ck.map u8v), blkE (w.heap.size + 1) 25 (nn.map u8v), blkE w.heap.size 23 (p.map u8v)] wy4 from HM.out.put 0 rfl _ hg hb)
 clear hb hg HSR
 refine hK.out _ _ ((HM.out.erase 0)) (fun hHeld => ?_)
 clear hK K
 (try simp only [Act.put, sA, s0, s1])
 refine wpAnyH_done (by kernel_rfl) ?_ _
 clear hHeld
 have HF := Lib.hid HM.out
 clear HM
 go_wp2_with (refine wpList_load_obj rfl 40 (.tmp 11) rfl g11 0 rfl (MsgM.mk [r] (nn ++ sl)).cells (HF.out.blk 0 rfl).all _ Tryz.underlying40 rfl HUM2.out ?_; rw [HCM2.out])
 refine (HEN.out _).mono ?_
 rintro e w9 ⟨A9, c9, rfl, h1, h2, hr, hb⟩
 have HR9 := Lib.hid (And.intro h1 (And.intro h2 (And.intro (hr.from_ HF.out.size) (HF.out.below hb).bel)))
 clear h1 h2 hr hb
 go_wp2_with fail
 go_ret
 exact ⟨A9, c9, rfl, HR9.out.1, HR9.out.2.1, HR9.out.2.2.1, HR9.out.2.2.2⟩
theorem msg_seg {k : Nat} {m : MsgM} (h : m.ok k) (q o z : Nat) (hq : msN k + o = q) : (m.cells.drop q).take z = ((m.bs.drop o).take z).map u8v := by
 subst hq
 have hl : (m.nums.map u32c).length = msN k := by rw [List.length_map, h.1]
 rw [MsgM.cells, ← List.drop_drop, ← hl, List.drop_left, List.map_take, List.map_drop]
theorem Rd.kept {w w' : World} {B g n : Nat} {A : Option Addr} {l : List UInt8} (h : Rd w B A n l) (hB : B ≤ g) (hg : g < w.heap.size) (hb : w.grownBy w' (some g)) : Rd w' B A n l :=
 h.keep fun q hq => World.cell?_of_block (hb.block q.block (by omega) (fun e => by injection e with e; omega))
theorem Rd.below2 {w w' : World} {B n : Nat} {A : Option Addr} {l : List UInt8} (h : Rd w B A n l) (hB : B ≤ w.heap.size) (hb : Below w.heap.size w w') : Rd w' B A n l := h.below (hb.mono hB)
theorem rd_of_at {W : World} {g off n : Nat} {l : List UInt8} (hg : g < W.heap.size) (h : At W g off (l.map u8v)) (hl : l.length = n) : Rd W W.heap.size (some ⟨g, off, none⟩) n l :=
 ⟨hl, fun _ => ⟨g, off, rfl, hg, fun j hj => h j _ (by rw [List.getElem?_map, List.getElem?_eq_getElem hj]; rfl)⟩⟩
theorem xopen_len (k n s more : List UInt8) (hs : s.length = 32) (h : (xopenL k n s more).2 = 0) : (xopenL k n s more).1.length = 16 := by
 have h2 := seal_open (longK k n) (longN n) s more h
 have h3 := sealL_length (longK k n) (longN n) (openL (longK k n) (longN n) s more).1 more
 rw [h2, hs] at h3
 show (openL (longK k n) (longN n) s more).1.length = 16
 omega
set_option maxRecDepth 100000 in
theorem refN32_any (A : Option Addr) (n c : Nat) (l : List UInt8) (h4 : 4 ≤ n) (hnc : n ≤ c) (w : World) (hr : Rd w w.heap.size A n l) :
 Calls Tryz.prog 37 #[.slice A n c] w fun e w' => e = .returned (.int .u32 (numL (l.take 4) : Int)) ∧ w = w' := by
 have hsl := slice_h A (by obtain ⟨b, off, e, _⟩ := hr.at_ (by omega); exact ⟨b, off, e⟩) n c 4 (by omega)
 have HSL := Lib.hid hsl
 have HC := Lib.hid (readRefLittle_any w.heap.size A 4 c (l.take 4) (by omega) w (hr.take h4))
 have hlt : numL (l.take 4) < 4294967296 := by
  have h := numL_lt (l.take 4)
  have h2 : (l.take 4).length ≤ 4 := by rw [List.length_take]; omega
  exact Nat.lt_of_lt_of_le h (Nat.pow_le_pow_right (n := 256) (by omega) h2)
 have e8 : (l.take 4).take 8 = l.take 4 := List.take_of_length_le (by rw [List.length_take]; omega)
 rw [e8] at HC
 generalize numL (l.take 4) = v at HC hlt
 have h1 : IntKind.u32.wrap (v : Int) = (v : Int) := by rw [IntKind.wrap_u32]; omega
 have h2 : (v : Int) % 4294967296 = (v : Int) := by omega
 have hsw := hsl w
 clear hsl hr e8
 rw [show ((4 : Nat) : Int) = 4 from rfl] at hsw
 go_enter Tryz.func37, Tryz.ntmps37
 go_wp2_with fail
 refine HC.out.mono ?_
 rintro e w1 ⟨rfl, rfl⟩
 clear hsw
 go_wp2_with fail
 go_ret
 exact ⟨rfl, rfl⟩
set_option maxRecDepth 100000 in
set_option maxHeartbeats 16000000 in
theorem refDec3 : MsDecC 18 3 := by
 intro A n c l hnc hcm hn w hr
 have HKD := Lib.hid (refKind_any A n c l hnc hcm hn)
 have HR := Lib.hid hr
 have hl : l.length = n := hr.1
 have hlz := MsgM.cells_length (msg0_ok 3)
 have HUZ := Lib.hid (show (Tryz.prog.info? 40).map (·.size) = some (msg0 3).cells.length from by rw [hlz]; kernel_rfl)
 have HLZ := Lib.hid hlz
 have hcz0 : (msg0 3).cells = (MsgM.mk [0] (List.replicate 56 0)).cells := rfl
 obtain ⟨cz, hcz⟩ : ∃ z, (msg0 3).cells.toArray = z := ⟨_, rfl⟩
 have HCZ := Lib.hid hcz
 have HZ0 := Lib.hid hcz0
 have HM := Lib.hid (show Mem w [blkE (w.heap.size + 1) 40 (msg0 3).cells, blkE w.heap.size 40 (msg0 3).cells] ((w.alloc (.cells #[.int .u32 0, .int .u8 0, .int .u8 0, .int .u8 0, .int .u8 0, .int .u8 0, .int .u8 0, .int .u8 0, .int .u8 0, .int .u8 0, .int .u8 0, .int .u8 0, .int .u8 0, .int .u8 0, .int .u8 0, .int .u8 0, .int .u8 0, .int .u8 0, .int .u8 0, .int .u8 0, .int .u8 0, .int .u8 0, .int .u8 0, .int .u8 0, .int .u8 0, .int .u8 0, .int .u8 0, .int .u8 0, .int .u8 0, .int .u8 0, .int .u8 0, .int .u8 0, .int .u8 0, .int .u8 0, .int .u8 0, .int .u8 0, .int .u8 0, .int .u8 0, .int .u8 0, .int .u8 0, .int .u8 0, .int .u8 0, .int .u8 0, .int .u8 0, .int .u8 0, .int .u8 0, .int .u8 0, .int .u8 0, .int .u8 0, .int .u8 0, .int .u8 0, .int .u8 0, .int .u8 0, .int .u8 0, .int .u8 0, .int .u8 0, .int .u8 0] 40)).alloc (.cells #[.int .u32 0, .int .u8 0, .int .u8 0, .int .u8 0, .int .u8 0, .int .u8 0, .int .u8 0, .int .u8 0, .int .u8 0, .int .u8 0, .int .u8 0, .int .u8 0, .int .u8 0, .int .u8 0, .int .u8 0, .int .u8 0, .int .u8 0, .int .u8 0, .int .u8 0, .int .u8 0, .int .u8 0, .int .u8 0, .int .u8 0, .int .u8 0, .int .u8 0, .int .u8 0, .int .u8 0, .int .u8 0, .int .u8 0, .int .u8 0, .int .u8 0, .int .u8 0, .int .u8 0, .int .u8 0, .int .u8 0, .int .u8 0, .int .u8 0, .int .u8 0, .int .u8 0, .int .u8 0, .int .u8 0, .int .u8 0, .int .u8 0, .int .u8 0, .int .u8 0, .int .u8 0, .int .u8 0, .int .u8 0, .int .u8 0, .int .u8 0, .int .u8 0, .int .u8 0, .int .u8 0, .int .u8 0, .int .u8 0, .int .u8 0, .int .u8 0] 40)) from ((Mem.nil w).alloc rfl 40 #[.int .u32 0, .int .u8 0, .int .u8 0, .int .u8 0, .int .u8 0, .int .u8 0, .int .u8 0, .int .u8 0, .int .u8 0, .int .u8 0, .int .u8 0, .int .u8 0, .int .u8 0, .int .u8 0, .int .u8 0, .int .u8 0, .int .u8 0, .int .u8 0, .int .u8 0, .int .u8 0, .int .u8 0, .int .u8 0, .int .u8 0, .int .u8 0, .int .u8 0, .int .u8 0, .int .u8 0, .int .u8 0, .int .u8 0, .int .u8 0, .int .u8 0, .int .u8 0, .int .u8 0, .int .u8 0, .int .u8 0, .int .u8 0, .int .u8 0, .int .u8 0, .int .u8 0, .int .u8 0, .int .u8 0, .int .u8 0, .int .u8 0, .int .u8 0, .int .u8 0, .int .u8 0, .int .u8 0, .int .u8 0, .int .u8 0, .int .u8 0, .int .u8 0, .int .u8 0, .int .u8 0, .int .u8 0, .int .u8 0, .int .u8 0, .int .u8 0] (msg0 3).cells (by kernel_rfl)).alloc (by simp) 40 #[.int .u32 0, .int .u8 0, .int .u8 0, .int .u8 0, .int .u8 0, .int .u8 0, .int .u8 0, .int .u8 0, .int .u8 0, .int .u8 0, .int .u8 0, .int .u8 0, .int .u8 0, .int .u8 0, .int .u8 0, .int .u8 0, .int .u8 0, .int .u8 0, .int .u8 0, .int .u8 0, .int .u8 0, .int .u8 0, .int .u8 0, .int .u8 0, .int .u8 0, .int .u8 0, .int .u8 0, .int .u8 0, .int .u8 0, .int .u8 0, .int .u8 0, .int .u8 0, .int .u8 0, .int .u8 0, .int .u8 0, .int .u8 0, .int .u8 0, .int .u8 0, .int .u8 0, .int .u8 0, .int .u8 0, .int .u8 0, .int .u8 0, .int .u8 0, .int .u8 0, .int .u8 0, .int .u8 0, .int .u8 0, .int .u8 0, .int .u8 0, .int .u8 0, .int .u8 0, .int .u8 0, .int .u8 0, .int .u8 0, .int .u8 0, .int .u8 0] (msg0 3).cells (by kernel_rfl))
 obtain ⟨q, hq⟩ : ∃ q, kindB l = q := ⟨_, rfl⟩
 rw [hq] at HKD
 clear hr hlz hcz hcz0
 go_enter Tryz.func18, Tryz.ntmps18
 go_upto_region 2 with fail
 generalize ((w.alloc (.cells #[.int .u32 0, .int .u8 0, .int .u8 0, .int .u8 0, .int .u8 0, .int .u8 0, .int .u8 0, .int .u8 0, .int .u8 0, .int .u8 0, .int .u8 0, .int .u8 0, .int .u8 0, .int .u8 0, .int .u8 0, .int .u8 0, .int .u8 0, .int .u8 0, .int .u8 0, .int .u8 0, .int .u8 0, .int .u8 0, .int .u8 0, .int .u8 0, .int .u8 0, .int .u8 0, .int .u8 0, .int .u8 0, .int .u8 0, .int .u8 0, .int .u8 0, .int .u8 0, .int .u8 0, .int .u8 0, .int .u8 0, .int .u8 0, .int .u8 0, .int .u8 0, .int .u8 0, .int .u8 0, .int .u8 0, .int .u8 0, .int .u8 0, .int .u8 0, .int .u8 0, .int .u8 0, .int .u8 0, .int .u8 0, .int .u8 0, .int .u8 0, .int .u8 0, .int .u8 0, .int .u8 0, .int .u8 0, .int .u8 0, .int .u8 0, .int .u8 0] 40)).alloc (.cells #[.int .u32 0, .int .u8 0, .int .u8 0, .int .u8 0, .int .u8 0, .int .u8 0, .int .u8 0, .int .u8 0, .int .u8 0, .int .u8 0, .int .u8 0, .int .u8 0, .int .u8 0, .int .u8 0, .int .u8 0, .int .u8 0, .int .u8 0, .int .u8 0, .int .u8 0, .int .u8 0, .int .u8 0, .int .u8 0, .int .u8 0, .int .u8 0, .int .u8 0, .int .u8 0, .int .u8 0, .int .u8 0, .int .u8 0, .int .u8 0, .int .u8 0, .int .u8 0, .int .u8 0, .int .u8 0, .int .u8 0, .int .u8 0, .int .u8 0, .int .u8 0, .int .u8 0, .int .u8 0, .int .u8 0, .int .u8 0, .int .u8 0, .int .u8 0, .int .u8 0, .int .u8 0, .int .u8 0, .int .u8 0, .int .u8 0, .int .u8 0, .int .u8 0, .int .u8 0, .int .u8 0, .int .u8 0, .int .u8 0, .int .u8 0, .int .u8 0] 40)) = w1 at HM ⊢
 go_wp2_with fail
 refine (HKD.out _ (HM.out.arg HR.out)).mono ?_
 rintro e w2 ⟨rfl, hb⟩
 replace HM := Lib.hid (HM.out.below hb)
 clear hb
 by_cases hk : q = 3
 case neg =>
  have ek : ((q : Int) != 3) = true := by rw [bne_iff_ne]; omega
  have HE := Lib.hid (show decB 3 l = (msg0 3, 4) from by rw [decB, if_neg (by rw [hq]; exact hk)])
  clear hq hk hl hnc hcm hn
  go_wp2_with (first | (refine wpList_load_obj rfl 40 (.tmp 4) rfl (w.heap.size + 1) 0 rfl (msg0 3).cells (HM.out.blk 0 rfl).all _ Tryz.underlying40 rfl HUZ.out ?_; rw [HCZ.out]) | (refine wpList_store_blk rfl 40 (.tmp 2) (.tmp 8) rfl w.heap.size (msg0 3).cells rfl (by show Value.agg cz = _; rw [HCZ.out]) 40 (msg0 3).cells (HM.out.blk 1 rfl) HUZ.out rfl (MsgM.one _) ?_; intro w9 hb9 hg9))
  exact bodyPost_ret (results_obj_tmp rfl _ _ w.heap.size 40 (msg0 3).cells _ rfl hb9 Tryz.underlying40 rfl HUZ.out) rfl ⟨by rw [HE.out]; rfl, (HM.out.put 1 rfl _ hg9 hb9).bel⟩
 subst hk
 have hll := kindB_len (k := 3) (by omega) hq
 have hn2 : n = 64 := by rw [← hl, hll]; rfl
 subst hn2
 have HE := Lib.hid (show decB 3 l = (msOf 3 l, 0) from by rw [decB, if_pos hq])
 have HL := Lib.hid hl
 obtain ⟨b, off, rfl, -, -⟩ := HR.out.at_ (by omega)
 have HS4 := Lib.hid (slice_l (some ⟨b, off, none⟩) 64 c 4 (by omega))
 rw [addrOf_some b off 4 c (by omega)] at HS4
 have HS8 := Lib.hid (slice_l (some ⟨b, off, none⟩) 64 c 8 (by omega))
 rw [addrOf_some b off 8 c (by omega)] at HS8
 have HS32 := Lib.hid (slice_l (some ⟨b, off, none⟩) 64 c 32 (by omega))
 rw [addrOf_some b off 32 c (by omega)] at HS32
 have HN0 := Lib.hid (fun W (h : Rd W W.heap.size (some ⟨b, off, none⟩) 64 l) => refN32_any (some ⟨b, off + 4, none⟩) 60 (c - 4) (l.drop 4) (by omega) (by omega) W (h.drop 4 b off rfl (by omega)))
 obtain ⟨v, hv⟩ : ∃ z, numL ((l.drop 4).take 4) = z := ⟨_, rfl⟩
 rw [hv] at HN0
 have HOF := Lib.hid (show MsgM.mk [v] (l.drop 8) = msOf 3 l from by rw [← hv]; rfl)
 have HLO := Lib.hid (MsgM.cells_length (msOf_ok hll))
 have HUO := Lib.hid (show (Tryz.prog.info? 40).map (·.size) = some (msOf 3 l).cells.length from by rw [HLO.out]; kernel_rfl)
 obtain ⟨co, hco⟩ : ∃ z, (msOf 3 l).cells.toArray = z := ⟨_, rfl⟩
 have HCO := Lib.hid hco
 obtain ⟨B, hB⟩ : ∃ z, l.drop 8 = z := ⟨_, rfl⟩
 rw [hB] at HOF
 have HB := Lib.hid (show B.length = 56 from by rw [← hB, List.length_drop, hl])
 have HDB := Lib.hid (show ∀ s o : Nat, s = 8 + o → l.drop s = B.drop o from by intro s o h; rw [h, ← hB, List.drop_drop])
 replace HM := Lib.hid (show Mem w [blkE (w.heap.size + 1) 40 (MsgM.mk [0] (msD B 56 0)).cells, blkE w.heap.size 40 (msg0 3).cells] w2 from by have h := HM.out; rw [msD_zero]; exact h)
 clear hv hco hB hll hq HKD hl hn hnc
 have hsw := HS4.out w2
 rw [show ((4 : Nat) : Int) = 4 from rfl] at hsw
 go_wp2_with fail
 refine (HN0.out _ (HM.out.arg HR.out)).mono ?_
 rintro e wy ⟨rfl, rfl⟩
 clear hsw
 have fx := ((HM.out.blk 0 rfl).cell 0)
 rw [show (MsgM.mk [0] (msD B 56 0)).cells[0]? = some (.int .u32 0) from rfl] at fx
 have zx := (HM.out.blk 0 rfl).frozen 0
 have HM2 := Lib.hid (show Mem w [blkE (w.heap.size + 1) 40 (MsgM.mk [v] (msD B 56 0)).cells, blkE w.heap.size 40 (msg0 3).cells] (w2.setCell ⟨(w.heap.size + 1), 0, none⟩ (.int .u32 (v : Int))) from HM.out.setCell 0 rfl 0 (u32c v))
 go_upto_region 5 with fail
 clear fx zx
 generalize w2.setCell ⟨(w.heap.size + 1), 0, none⟩ (.int .u32 (v : Int)) = w3 at HM2 ⊢
 replace HM := HM2
 clear HM2
 refine wp_region_held_drew (S := fun W' => Mem w [blkE w.heap.size 40 (msg0 3).cells] W') (by kernel_rfl) (((HM.out.erase 0)).drew) (fun hHeld => ?_)
 replace HM := Lib.hid HM.out.drew
 generalize w3.drew = wd1 at HM hHeld ⊢
 refine tf (v := ?_) 0 rfl (Or.inl ⟨by rfl, ?_⟩) ?_
 rotate_left
 · (intro w hSw; (try dsimp only at hSw); go_simp; try with_reducible rfl)
 (try simp only [Act.put, sA, s0, s1])
 refine tf (v := ?_) 1 rfl (Or.inl ⟨by rfl, ?_⟩) ?_
 rotate_left
 · (intro w hSw; (try dsimp only at hSw); go_simp; try with_reducible rfl)
 (try simp only [Act.put, sA, s0, s1])
 refine tf (v := ?_) 2 rfl (Or.inl ⟨by rfl, ?_⟩) ?_
 rotate_left
 · (intro w hSw; (try dsimp only at hSw); go_simp; try with_reducible rfl)
 (try simp only [Act.put, sA, s0, s1])
 refine tf (v := ?_) 3 rfl (Or.inl ⟨by rfl, ?_⟩) ?_
 rotate_left
 · (intro w hSw; (try dsimp only at hSw); have hs := HS8.out w; rw [show ((8 : Nat) : Int) = 8 from rfl] at hs; go_simp; try with_reducible rfl)
 (try simp only [Act.put, sA, s0, s1])
 refine so 4 rfl fun K hK => ?_
 clear hHeld
 refine step_copy_blk rfl (.tmp 14) (.tmp 16) 29 29 (by rfl) 5 Tryz.underlying29 (by kernel_rfl) (w.heap.size + 1) 1 24 24 ⟨b, off + 8, none⟩ 56 (c - 8) (by rfl) (by rfl) (MsgM.mk [v] (msD B 56 0)).cells 40 (HM.out.blk 0 rfl) (((l.drop 8).take 24).map u8v) (by rw [List.length_map, List.length_take, List.length_drop, HL.out] <;> rfl) (seg_src (HM.out.arg HR.out) 8 24 (by omega)) (by rw [List.length_map, List.length_take, List.length_drop, HL.out, MsgM.cells, List.length_append, List.length_map, List.length_map, msD_length B 56 0 HB.out (by omega)]; show 1 + min 24 (64 - 8) ≤ 1 + 56; decide) (u8v_one _) (MsgM.mk [v] (msD B 56 24)).cells (by rw [HDB.out 8 0 rfl]; refine (msg_put _ _ _ 1 0 rfl (by rw [List.length_take, List.length_drop, HB.out, msD_length B 56 0 HB.out (by omega)]; decide)).trans ?_; rw [msD_step B 56 0 24 HB.out (by omega)]) ?_
 intro wy2 hb hg
 replace HM := Lib.hid (show Mem w [blkE (w.heap.size + 1) 40 (MsgM.mk [v] (msD B 56 24)).cells, blkE w.heap.size 40 (msg0 3).cells] wy2 from HM.out.put 0 rfl _ hg hb)
 clear hb hg
 refine hK.out _ _ ((HM.out.erase 0)) (fun hHeld => ?_)
 clear hK K
 (try simp only [Act.put, sA, s0, s1])
 refine wpAnyH_done (by kernel_rfl) ?_ _
 clear hHeld
 generalize hwq : wy2 = wf0 at HM ⊢
 clear hwq
 go_upto_region 6 with fail
 refine wp_region_held_drew (S := fun W' => Mem w [blkE w.heap.size 40 (msg0 3).cells] W') (by kernel_rfl) (((HM.out.erase 0)).drew) (fun hHeld => ?_)
 replace HM := Lib.hid HM.out.drew
 generalize wf0.drew = wd1 at HM hHeld ⊢
 refine tf (v := ?_) 0 rfl (Or.inl ⟨by rfl, ?_⟩) ?_
 rotate_left
 · (intro w hSw; (try dsimp only at hSw); go_simp; try with_reducible rfl)
 (try simp only [Act.put, sA, s0, s1])
 refine tf (v := ?_) 1 rfl (Or.inl ⟨by rfl, ?_⟩) ?_
 rotate_left
 · (intro w hSw; (try dsimp only at hSw); go_simp; try with_reducible rfl)
 (try simp only [Act.put, sA, s0, s1])
 refine tf (v := ?_) 2 rfl (Or.inl ⟨by rfl, ?_⟩) ?_
 rotate_left
 · (intro w hSw; (try dsimp only at hSw); go_simp; try with_reducible rfl)
 (try simp only [Act.put, sA, s0, s1])
 refine tf (v := ?_) 3 rfl (Or.inl ⟨by rfl, ?_⟩) ?_
 rotate_left
 · (intro w hSw; (try dsimp only at hSw); have hs := HS32.out w; rw [show ((32 : Nat) : Int) = 32 from rfl] at hs; go_simp; try with_reducible rfl)
 (try simp only [Act.put, sA, s0, s1])
 refine so 4 rfl fun K hK => ?_
 clear hHeld
 refine step_copy_blk rfl (.tmp 19) (.tmp 21) 29 29 (by rfl) 5 Tryz.underlying29 (by kernel_rfl) (w.heap.size + 1) 25 32 32 ⟨b, off + 32, none⟩ 32 (c - 32) (by rfl) (by rfl) (MsgM.mk [v] (msD B 56 24)).cells 40 (HM.out.blk 0 rfl) (((l.drop 32).take 32).map u8v) (by rw [List.length_map, List.length_take, List.length_drop, HL.out] <;> rfl) (seg_src (HM.out.arg HR.out) 32 32 (by omega)) (by rw [List.length_map, List.length_take, List.length_drop, HL.out, MsgM.cells, List.length_append, List.length_map, List.length_map, msD_length B 56 24 HB.out (by omega)]; show 25 + min 32 (64 - 32) ≤ 1 + 56; decide) (u8v_one _) (MsgM.mk [v] (msD B 56 56)).cells (by rw [HDB.out 32 24 rfl]; refine (msg_put _ _ _ 25 24 rfl (by rw [List.length_take, List.length_drop, HB.out, msD_length B 56 24 HB.out (by omega)]; decide)).trans ?_; rw [msD_step B 56 24 32 HB.out (by omega)]) ?_
 intro wy2 hb hg
 replace HM := Lib.hid (show Mem w [blkE (w.heap.size + 1) 40 (MsgM.mk [v] (msD B 56 56)).cells, blkE w.heap.size 40 (msg0 3).cells] wy2 from HM.out.put 0 rfl _ hg hb)
 clear hb hg
 refine hK.out _ _ ((HM.out.erase 0)) (fun hHeld => ?_)
 clear hK K
 (try simp only [Act.put, sA, s0, s1])
 refine wpAnyH_done (by kernel_rfl) ?_ _
 clear hHeld
 generalize hwq : wy2 = wf1 at HM ⊢
 clear hwq
 go_upto_region 7 with fail
 have HM3 := Lib.hid (show Mem w [blkE (w.heap.size + 1) 40 (msOf 3 l).cells, blkE w.heap.size 40 (msg0 3).cells] wf1 from by have h := HM.out; rw [msD_all B 56 HB.out, HOF.out] at h; exact h)
 clear HM
 go_wp2_with (first | (refine wpList_load_obj rfl 40 (.tmp 4) rfl (w.heap.size + 1) 0 rfl (msOf 3 l).cells (HM3.out.blk 0 rfl).all _ Tryz.underlying40 rfl HUO.out ?_; rw [HCO.out]) | (refine wpList_store_blk rfl 40 (.tmp 2) (.tmp 23) rfl w.heap.size (msOf 3 l).cells rfl (by show Value.agg co = _; rw [HCO.out]) 40 (msg0 3).cells (HM3.out.blk 1 rfl) HUO.out (by rw [HLO.out, HLZ.out]) (MsgM.one _) ?_; intro w9 hb9 hg9))
 exact bodyPost_ret (results_obj_tmp rfl _ _ w.heap.size 40 (msOf 3 l).cells _ rfl hb9 Tryz.underlying40 rfl HUO.out) rfl ⟨by rw [HE.out]; rfl, (HM3.out.put 1 rfl _ hg9 hb9).bel⟩
set_option maxRecDepth 100000 in
set_option maxHeartbeats 8000000 in
theorem refOpenC : McOpenC 8 := by
 intro p mac hp hmac A n c l hnc hcx hn6 w _hlv hr
 have HP := Lib.hid hp
 have HMC := Lib.hid hmac
 have hd := refDec3 A n c l hnc hcx hn6
 obtain ⟨cp, hcp⟩ : ∃ z, (p.map u8v).toArray = z := ⟨_, rfl⟩
 obtain ⟨cm, hcm⟩ : ∃ z, (mac.map u8v).toArray = z := ⟨_, rfl⟩
 rw [hcp, hcm]
 have HM := Lib.hid (show Mem w [blkE (w.heap.size + 1 + 1) 27 ((List.replicate 16 (0 : UInt8)).map u8v), blkE (w.heap.size + 1) 27 (mac.map u8v), blkE w.heap.size 23 (p.map u8v)] (((w.alloc (.cells cp 23)).alloc (.cells cm 27)).alloc (.cells zb16 27)) from (((Mem.nil w).alloc rfl 23 cp (p.map u8v) hcp.symm).alloc (by simp) 27 cm (mac.map u8v) hcm.symm).alloc (by simp) 27 zb16 ((List.replicate 16 (0 : UInt8)).map u8v) rfl)
 have HR := Lib.hid hr
 have hdo := (decB_ok (k := 3) (by omega) l).1
 have hde : (decB 3 l) = ((decB 3 l).1, (decB 3 l).2) := rfl
 have hh1 := fun h : kindB l = 3 => show decB 3 l = (msOf 3 l, 0) from by rw [decB, if_pos h]
 have hh2 := fun h : ¬ kindB l = 3 => show decB 3 l = (msg0 3, 4) from by rw [decB, if_neg h]
 have hlm := MsgM.cells_length hdo
 obtain ⟨mm, hmm⟩ : ∃ z, (decB 3 l).1 = z := ⟨_, rfl⟩
 obtain ⟨er, her⟩ : ∃ z, (decB 3 l).2 = z := ⟨_, rfl⟩
 rw [hmm] at hdo hlm
 rw [hmm, her] at hd
 obtain ⟨cd, hcd⟩ : ∃ z, mm.cells.toArray = z := ⟨_, rfl⟩
 rw [hcd] at hd
 have HD := Lib.hid hd
 have HCD := Lib.hid hcd
 have HLM := Lib.hid hlm
 have HUM := Lib.hid (show (Tryz.prog.info? 40).map (·.size) = some mm.cells.length from by rw [hlm]; kernel_rfl)
 have HDO := Lib.hid hdo
 clear hd hcd hlm hr hde
 go_enter Tryz.func8, Tryz.ntmps8
 go_upto_region 1 with fail
 generalize (((w.alloc (.cells cp 23)).alloc (.cells cm 27)).alloc (.cells zb16 27)) = w1 at HM ⊢
 go_wp2_with fail
 refine (HD.out _ (HM.out.arg HR.out)).mono ?_
 rintro e w2 ⟨rfl, hb⟩
 replace HM := Lib.hid (HM.out.below hb)
 clear hb
 have HMZ := Lib.hid (show Mem w [blkE w2.heap.size 40 (msg0 3).cells, blkE (w.heap.size + 1 + 1) 27 ((List.replicate 16 (0 : UInt8)).map u8v), blkE (w.heap.size + 1) 27 (mac.map u8v), blkE w.heap.size 23 (p.map u8v)] (w2.alloc (.cells #[.int .u32 0, .int .u8 0, .int .u8 0, .int .u8 0, .int .u8 0, .int .u8 0, .int .u8 0, .int .u8 0, .int .u8 0, .int .u8 0, .int .u8 0, .int .u8 0, .int .u8 0, .int .u8 0, .int .u8 0, .int .u8 0, .int .u8 0, .int .u8 0, .int .u8 0, .int .u8 0, .int .u8 0, .int .u8 0, .int .u8 0, .int .u8 0, .int .u8 0, .int .u8 0, .int .u8 0, .int .u8 0, .int .u8 0, .int .u8 0, .int .u8 0, .int .u8 0, .int .u8 0, .int .u8 0, .int .u8 0, .int .u8 0, .int .u8 0, .int .u8 0, .int .u8 0, .int .u8 0, .int .u8 0, .int .u8 0, .int .u8 0, .int .u8 0, .int .u8 0, .int .u8 0, .int .u8 0, .int .u8 0, .int .u8 0, .int .u8 0, .int .u8 0, .int .u8 0, .int .u8 0, .int .u8 0, .int .u8 0, .int .u8 0, .int .u8 0] 40)) from HM.out.alloc rfl 40 #[.int .u32 0, .int .u8 0, .int .u8 0, .int .u8 0, .int .u8 0, .int .u8 0, .int .u8 0, .int .u8 0, .int .u8 0, .int .u8 0, .int .u8 0, .int .u8 0, .int .u8 0, .int .u8 0, .int .u8 0, .int .u8 0, .int .u8 0, .int .u8 0, .int .u8 0, .int .u8 0, .int .u8 0, .int .u8 0, .int .u8 0, .int .u8 0, .int .u8 0, .int .u8 0, .int .u8 0, .int .u8 0, .int .u8 0, .int .u8 0, .int .u8 0, .int .u8 0, .int .u8 0, .int .u8 0, .int .u8 0, .int .u8 0, .int .u8 0, .int .u8 0, .int .u8 0, .int .u8 0, .int .u8 0, .int .u8 0, .int .u8 0, .int .u8 0, .int .u8 0, .int .u8 0, .int .u8 0, .int .u8 0, .int .u8 0, .int .u8 0, .int .u8 0, .int .u8 0, .int .u8 0, .int .u8 0, .int .u8 0, .int .u8 0, .int .u8 0] (msg0 3).cells (by kernel_rfl))
 clear HM
 go_upto_region 2 with (refine wpList_store_blk rfl 40 (.tmp 8) (.tmp 15) rfl w2.heap.size mm.cells rfl (by show Value.agg cd = _; rw [HCD.out]) 40 (msg0 3).cells (HMZ.out.blk 0 rfl) HUM.out (by rw [HLM.out, MsgM.cells_length (msg0_ok 3)]) (MsgM.one _) ?_; intro w4 hb4 hg4)
 (try simp only [Act.put])
 have hm4 := HMZ.out.put 0 rfl _ hg4 hb4
 generalize w2.heap.size = g8 at hm4 ⊢
 have HM := Lib.hid (show Mem w [blkE g8 40 mm.cells, blkE (w.heap.size + 1 + 1) 27 ((List.replicate 16 (0 : UInt8)).map u8v), blkE (w.heap.size + 1) 27 (mac.map u8v), blkE w.heap.size 23 (p.map u8v)] w4 from hm4)
 clear hm4 hb4 hg4 HMZ
 by_cases hk : kindB l = 3
 case neg =>
  have h2 := hh2 hk
  have hev : er = 4 := by rw [← her, h2]
  subst hev
  have HV := Lib.hid (show openB p mac l = (List.replicate 16 0, 4) from by rw [openB, if_neg hk])
  clear hk h2 hh1 hh2 her hmm hdo hcp hcm hp hmac hnc hcx hn6
  go_wp2_with (first | (refine wpList_build_as rfl 27 [] rfl zb16 ?_ ?_; kernel_rfl) | (refine wpList_store_blk rfl 27 (.tmp 6) (.tmp 19) rfl (w.heap.size + 1 + 1) ((List.replicate 16 (0 : UInt8)).map u8v) rfl (by rfl) 27 ((List.replicate 16 (0 : UInt8)).map u8v) (HM.out.blk 1 rfl) (ae_cellsT _ (by simp)) (by simp) (u8v_one _) ?_; intro w9 hb9 hg9))
  exact bodyPost_ret (results_obj_tmp rfl _ _ (w.heap.size + 1 + 1) 27 ((List.replicate 16 (0 : UInt8)).map u8v) _ rfl hb9 Tryz.underlying27 rfl (ae_cellsT _ (by simp))) rfl ⟨by rw [HV.out]; rfl, (HM.out.put 1 rfl _ hg9 hb9).bel⟩
 have h1 := hh1 hk
 have hev : er = 0 := by rw [← her, h1]
 have hmv : mm = msOf 3 l := by rw [← hmm, h1]
 subst hev
 have hl64 : l.length = 64 := kindB_len (k := 3) (by omega) hk
 obtain ⟨nn, hnn⟩ : ∃ z, (l.drop 8).take 24 = z := ⟨_, rfl⟩
 obtain ⟨sl, hsl⟩ : ∃ z, (l.drop 32).take 32 = z := ⟨_, rfl⟩
 have hn24 : nn.length = 24 := by rw [← hnn, List.length_take, List.length_drop, hl64]; rfl
 have hs32 : sl.length = 32 := by rw [← hsl, List.length_take, List.length_drop, hl64]; rfl
 have hbs : mm.bs = l.drop 8 := by rw [hmv]; rfl
 have hseg1 : (mm.cells.drop 1).take 24 = nn.map u8v := by rw [msg_seg hdo 1 0 24 rfl, hbs, List.drop_zero, hnn]
 have hseg2 : (mm.cells.drop 25).take 32 = sl.map u8v := by rw [msg_seg hdo 25 24 32 rfl, hbs, List.drop_drop, hsl]
 have HSEG := Lib.hid (And.intro hseg1 hseg2)
 have HN := Lib.hid hn24
 have HSLN := Lib.hid hs32
 have hv : openB p mac l = if (xopenL (hideB p) nn sl mac).2 = 0 then ((xopenL (hideB p) nn sl mac).1, 0) else (List.replicate 16 0, (xopenL (hideB p) nn sl mac).2) := by
  rw [openB, if_pos hk]
  simp only [hnn, hsl]
 have hhd := fun W : World => refHidden_any p hp W
 have hxo := fun (gc gm : Nat) (W : World) (h1 : Rd W W.heap.size (some ⟨gc, 25, none⟩) 32 sl) (h2 : Rd W W.heap.size (some ⟨gm, 0, none⟩) 16 mac) => refXOpen_any (hideB p) nn (hideB_length p) hn24 (some ⟨gc, 25, none⟩) (some ⟨gm, 0, none⟩) 32 32 16 16 sl mac (by omega) (by omega) (by unfold maxLen; omega) (by omega) W h1 h2
 have hxn := xopen_len (hideB p) nn sl mac hs32
 obtain ⟨xl, hxl⟩ : ∃ z, (xopenL (hideB p) nn sl mac).1 = z := ⟨_, rfl⟩
 obtain ⟨xe, hxe⟩ : ∃ z, (xopenL (hideB p) nn sl mac).2 = z := ⟨_, rfl⟩
 rw [hxl, hxe] at hv hxn
 rw [hxl, hxe] at hxo
 generalize hideB p = hkk at hhd hxo
 obtain ⟨chk, hchk⟩ : ∃ z, (hkk.map u8v).toArray = z := ⟨_, rfl⟩
 obtain ⟨cn, hcn⟩ : ∃ z, (nn.map u8v).toArray = z := ⟨_, rfl⟩
 rw [hcp, hchk] at hhd
 rw [hchk, hcn] at hxo
 have HV := Lib.hid hv
 have HXN := Lib.hid hxn
 have HHD := Lib.hid hhd
 have HXO := Lib.hid hxo
 have HCN := Lib.hid hcn
 have HCP := Lib.hid hcp
 clear hv hxn hhd hxo hcn hchk hxl hxe hseg1 hseg2 hbs hn24 hs32 hnn hsl hl64 hmv h1 hh1 hh2 hk her hmm hdo hcp hcm hp hmac hnc hcx hn6
 go_upto_region 4 with fail
 refine wp_region_held_drew (S := fun W' => Mem w [blkE g8 40 mm.cells, blkE (w.heap.size + 1 + 1) 27 ((List.replicate 16 (0 : UInt8)).map u8v), blkE (w.heap.size + 1) 27 (mac.map u8v), blkE w.heap.size 23 (p.map u8v)] W') (by kernel_rfl) ((HM.out).drew) (fun hHeld => ?_)
 replace HM := Lib.hid HM.out.drew
 generalize w4.drew = wd1 at HM hHeld ⊢
 refine tf (v := .agg cp) 0 rfl (by rw [← HCP.out]; exact yields_load_obj (by rfl) 23 (.tmp 3) rfl w.heap.size 0 rfl (p.map u8v) (fun w' hb => (Mem.blk hb 3 rfl).all) _ Tryz.underlying23 rfl (cells32 p HP.out)) ?_
 (try simp only [Act.put, sA, s0, s1])
 refine tf (v := ?_) 2 rfl (Or.inl ⟨by rfl, ?_⟩) ?_
 rotate_left
 · (intro w hSw; (try dsimp only at hSw); go_simp; try with_reducible rfl)
 (try simp only [Act.put, sA, s0, s1])
 refine tf (v := .agg cn) 3 rfl (by rw [← HCN.out]; exact yields_load_obj (by rfl) 25 (.tmp 24) rfl g8 1 rfl (nn.map u8v) (fun w' hb => by have h := (Mem.blk hb 0 rfl).sub 1 24; rw [HSEG.out.1] at h; exact h) _ Tryz.underlying25 rfl (xc_cellsL nn HN.out)) ?_
 (try simp only [Act.put, sA, s0, s1])
 refine tf (v := ?_) 4 rfl (Or.inl ⟨by rfl, ?_⟩) ?_
 rotate_left
 · (intro w hSw; (try dsimp only at hSw); go_simp; try with_reducible rfl)
 (try simp only [Act.put, sA, s0, s1])
 refine tf (v := ?_) 5 rfl (Or.inl ⟨by rfl, ?_⟩) ?_
 rotate_left
 · (intro w hSw; (try dsimp only at hSw); go_simp; try with_reducible rfl)
 (try simp only [Act.put, sA, s0, s1])
 refine tf (v := ?_) 6 rfl (Or.inl ⟨by rfl, ?_⟩) ?_
 rotate_left
 · (intro w hSw; (try dsimp only at hSw); go_simp; try with_reducible rfl)
 (try simp only [Act.put, sA, s0, s1])
 refine so 1 rfl fun K hK => ?_
 clear hHeld
 go_simp
 refine (HHD.out _).mono ?_
 rintro e wy2 ⟨rfl, hb⟩
 replace HM := Lib.hid (show Mem w [blkE g8 40 mm.cells, blkE (w.heap.size + 1 + 1) 27 ((List.replicate 16 (0 : UInt8)).map u8v), blkE (w.heap.size + 1) 27 (mac.map u8v), blkE w.heap.size 23 (p.map u8v)] wy2 from HM.out.below hb)
 clear hb
 go_wp2_with fail
 refine hK.out _ _ (HM.out) (fun hHeld => ?_)
 clear hK K
 (try simp only [Act.put, sA, s0, s1])
 refine so 7 rfl fun K hK => ?_
 clear hHeld
 go_simp
 refine (HXO.out g8 (w.heap.size + 1) _ (by have h := (HM.out.blk 0 rfl).sub 25 32; rw [HSEG.out.2] at h; exact rd_of_at (HM.out.blk 0 rfl).lt h HSLN.out) (blk_all (HM.out.blk 2 rfl) HMC.out)).mono ?_
 rintro e wy3 ⟨A5, c5, rfl, hr, hb⟩
 have HR5 := Lib.hid hr
 replace HM := Lib.hid (show Mem w [blkE g8 40 mm.cells, blkE (w.heap.size + 1 + 1) 27 ((List.replicate 16 (0 : UInt8)).map u8v), blkE (w.heap.size + 1) 27 (mac.map u8v), blkE w.heap.size 23 (p.map u8v)] wy3 from HM.out.below hb)
 clear hb hr
 go_wp2_with fail
 refine hK.out _ _ (HM.out) (fun hHeld => ?_)
 clear hK K
 (try simp only [Act.put, sA, s0, s1])
 refine tf (v := ?_) 8 rfl (Or.inl ⟨by rfl, ?_⟩) ?_
 rotate_left
 · (intro w hSw; (try dsimp only at hSw); go_simp; try with_reducible rfl)
 (try simp only [Act.put, sA, s0, s1])
 refine tf (v := ?_) 9 rfl (Or.inl ⟨by rfl, ?_⟩) ?_
 rotate_left
 · (intro w hSw; (try dsimp only at hSw); go_simp; try with_reducible rfl)
 (try simp only [Act.put, sA, s0, s1])
 refine tf (v := ?_) 10 rfl (Or.inl ⟨by rfl, ?_⟩) ?_
 rotate_left
 · (intro w hSw; (try dsimp only at hSw); go_simp; try with_reducible rfl)
 (try simp only [Act.put, sA, s0, s1])
 refine tf (v := ?_) 11 rfl (Or.inl ⟨by rfl, ?_⟩) ?_
 rotate_left
 · (intro w hSw; (try dsimp only at hSw); go_simp; try with_reducible rfl)
 (try simp only [Act.put, sA, s0, s1])
 refine tf (v := ?_) 12 rfl (Or.inl ⟨by rfl, ?_⟩) ?_
 rotate_left
 · (intro w hSw; (try dsimp only at hSw); go_simp; try with_reducible rfl)
 (try simp only [Act.put, sA, s0, s1])
 refine wpAnyH_done (by kernel_rfl) ?_ _
 clear hHeld
 by_cases hx0 : xe = 0
 case neg =>
  have ex : ((xe : Int) != 0) = true := by rw [bne_iff_ne]; omega
  have HVN := Lib.hid (show openB p mac l = (List.replicate 16 0, xe) from by rw [HV.out, if_neg hx0])
  clear hx0
  go_wp2_with (first | (refine wpList_build_as rfl 27 [] rfl zb16 ?_ ?_; kernel_rfl) | (refine wpList_store_blk rfl 27 (.tmp 6) (.tmp 34) rfl (w.heap.size + 1 + 1) ((List.replicate 16 (0 : UInt8)).map u8v) rfl (by rfl) 27 ((List.replicate 16 (0 : UInt8)).map u8v) (HM.out.blk 1 rfl) (ae_cellsT _ (by simp)) (by simp) (u8v_one _) ?_; intro w9 hb9 hg9))
  exact bodyPost_ret (results_obj_tmp rfl _ _ (w.heap.size + 1 + 1) 27 ((List.replicate 16 (0 : UInt8)).map u8v) _ rfl hb9 Tryz.underlying27 rfl (ae_cellsT _ (by simp))) rfl ⟨by rw [HVN.out]; rfl, (HM.out.put 1 rfl _ hg9 hb9).bel⟩
 subst hx0
 have HVP := Lib.hid (show openB p mac l = (xl, 0) from by rw [HV.out, if_pos rfl])
 have HX16 := Lib.hid (HXN.out rfl)
 rw [HX16.out] at HR5
 obtain ⟨g5, o5, rfl, -, -⟩ := HR5.out.at_ (by omega)
 generalize hwz : wy3 = wz at HM HR5 ⊢
 clear hwz
 have HMZ := Lib.hid (show Mem w [blkE wz.heap.size 27 ((List.replicate 16 (0 : UInt8)).map u8v), blkE g8 40 mm.cells, blkE (w.heap.size + 1 + 1) 27 ((List.replicate 16 (0 : UInt8)).map u8v), blkE (w.heap.size + 1) 27 (mac.map u8v), blkE w.heap.size 23 (p.map u8v)] (wz.alloc (.cells zb16 27)) from HM.out.alloc rfl 27 zb16 ((List.replicate 16 (0 : UInt8)).map u8v) rfl)
 have HRZ := Lib.hid (HR5.out.below2 (Nat.le_refl _) ((Below.refl _ _).alloc (Nat.le_refl _) (.cells zb16 27)))
 clear HM HR5
 have hxlen : xl.length = 16 := HX16.out
 go_upto_region 9 with (refine wpList_copy_bytes _ rfl (.tmp 36) (.tmp 37) 29 29 rfl 5 Tryz.underlying29 (by kernel_rfl) wz.heap.size 0 16 16 ⟨g5, o5, none⟩ xl.length c5 (by rfl) (by rfl) ((List.replicate 16 (0 : UInt8)).map u8v) 27 (HMZ.out.blk 0 rfl) (xl.map u8v) (by rw [List.length_map, hxlen]; rfl) (HRZ.out.src) (by rw [List.length_map, hxlen]; simp) (u8v_one _) ?_; intro w8 hb8 hg8)
 rw [show (((List.replicate 16 (0 : UInt8)).map u8v).take 0 ++ xl.map u8v ++ ((List.replicate 16 (0 : UInt8)).map u8v).drop (0 + (xl.map u8v).length) : List Value) = xl.map u8v from by rw [List.take_zero, List.nil_append, List.length_map, hxlen, List.drop_of_length_le (by simp), List.append_nil]] at hb8
 have HM := Lib.hid (HMZ.out.put 0 rfl _ hg8 hb8)
 clear hb8 hg8 HMZ HRZ
 obtain ⟨cx, hcx⟩ : ∃ z, (xl.map u8v).toArray = z := ⟨_, rfl⟩
 have HCX := Lib.hid hcx
 clear hcx
 go_wp2_with (first | (refine wpList_load_obj rfl 27 (.tmp 11) rfl wz.heap.size 0 rfl (xl.map u8v) (HM.out.blk 0 rfl).all _ Tryz.underlying27 rfl (ae_cellsT xl HX16.out) ?_; rw [HCX.out]) | (refine wpList_store_blk rfl 27 (.tmp 6) (.tmp 39) rfl (w.heap.size + 1 + 1) (xl.map u8v) rfl (by show Value.agg cx = _; rw [HCX.out]) 27 ((List.replicate 16 (0 : UInt8)).map u8v) (HM.out.blk 2 rfl) (ae_cellsT xl HX16.out) (by rw [List.length_map, List.length_map, HX16.out]; rfl) (u8v_one _) ?_; intro w9 hb9 hg9))
 exact bodyPost_ret (results_obj_tmp rfl _ _ (w.heap.size + 1 + 1) 27 (xl.map u8v) _ rfl hb9 Tryz.underlying27 rfl (ae_cellsT xl HX16.out)) rfl ⟨by rw [HVP.out]; rfl, (HM.out.put 2 rfl _ hg9 hb9).bel⟩
theorem key_parts : ∃ i, Tryz.prog.info? 23 = some i ∧ i.size = 32 ∧ ∃ z, i.zero = some z := by
 have h : (Tryz.prog.info? 23).map (fun i => (i.size, i.zero.isSome)) = some (32, true) := by kernel_rfl
 cases hi : Tryz.prog.info? 23 with
 | none => rw [hi] at h; cases h
 | some i =>
  rw [hi] at h
  simp only [Option.map_some, Option.some.injEq, Prod.mk.injEq] at h
  exact ⟨i, rfl, h.1, Option.isSome_iff_exists.1 h.2⟩
theorem run_tag_eq (xs : List UInt8) (hx : xs.length = 16) (w : World) : (Op.equalIn 10000 27 (.agg (xs.map u8v).toArray) (.agg (xs.map u8v).toArray)).run Tryz.prog w = .ok true w := by
 obtain ⟨i0, hi, _, hz1, _⟩ := info_parts Tryz.info5
 have h := run_key_eq (P := Tryz.prog) 27 5 16 Tryz.underlying27 Tryz.underlying5 i0 hi hz1 xs xs hx hx w
 rwa [show (xs == xs) = true by simp] at h
set_option maxRecDepth 100000 in
theorem caseCut_any (A : Option Addr) (n c m k : Nat) (hm : m ≤ 1000000) (hnc : n ≤ c) (hcm : c ≤ maxLen) (hk : min n m = k) (w : World) :
 Calls Tryz.prog 6 #[.slice A n c, .int .i64 (m : Int)] w fun e w' => e = .returned (.slice A k c) ∧ Below w.heap.size w w' := by
 have hc63 : (c : Int) ≤ 9223372036854775807 := by unfold maxLen at hcm; omega
 by_cases h : n ≤ m
 ·
  obtain rfl : k = n := by omega
  have h1 : ¬ (m : Int) < (k : Int) := by omega
  have h2 : (k : Int) ≤ (m : Int) := by omega
  have h3 : (k : Int) ≤ (c : Int) := by omega
  have h4 : (if (m : Int) < (k : Int) then (m : Int) else (k : Int)) = (k : Int) := if_neg h1
  clear hk
  go_enter Tryz.func6, Tryz.ntmps6
  go_wp2
  go_ret
  exact ⟨rfl, Below.refl _ _⟩
 ·
  obtain rfl : k = m := by omega
  have h1 : (k : Int) < (n : Int) := by omega
  have h2 : ¬ (n : Int) ≤ (k : Int) := by omega
  have h3 : (k : Int) ≤ (c : Int) := by omega
  have h4 : (if (k : Int) < (n : Int) then (k : Int) else (n : Int)) = (k : Int) := if_pos h1
  clear hk
  go_enter Tryz.func6, Tryz.ntmps6
  go_wp2
  go_ret
  exact ⟨rfl, Below.refl _ _⟩
theorem xor_bits (a b : UInt8) : bits BinOp.xor IntKind.u8 (a.toNat : Int) (b.toNat : Int) = ((a ^^^ b).toNat : Int) := by
 rw [UInt8.toNat_xor, u8_xor_nat _ _ a.toNat_lt b.toNat_lt]
end Go.Proofs.YtlddafkikkaonaaGreatDoor
