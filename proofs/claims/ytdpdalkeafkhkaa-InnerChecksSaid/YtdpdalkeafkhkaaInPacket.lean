/-
  The contract of a packet that the statements are made of: Packet. No statement is proved here.
-/
import Derived.Test.YtdpdalkeafkhkaaInHost
namespace Go.Proofs.Ytdpdalkeafkhkaa
open Go.RowKit

def pk0 (n : Nat) : List UInt8 := List.replicate (20 + n) 0
def pk1 (n : Nat) (u v : UInt8) : List UInt8 := [69, 0, u, v] ++ List.replicate (16 + n) 0
def pk2 (n : Nat) (u v : UInt8) (s : List UInt8) : List UInt8 := [69, 0, u, v] ++ List.replicate 8 0 ++ s ++ List.replicate (4 + n) 0
def pk3 (n : Nat) (u v : UInt8) (s d : List UInt8) : List UInt8 := [69, 0, u, v] ++ List.replicate 8 0 ++ s ++ d ++ List.replicate n 0
def pkBody (n : Nat) (f : UInt8) : List UInt8 := (List.range n).map fun i => f + UInt8.ofNat (20 + i)
/-- the packet after j bytes of the body -/
def pkJ (n : Nat) (u v : UInt8) (s d : List UInt8) (f : UInt8) (j : Nat) : List UInt8 := ([69, 0, u, v] ++ List.replicate 8 0 ++ s ++ d) ++ ((pkBody n f).take j ++ List.replicate (n - j) 0)
/-- a packet of the version 4 with n bytes behind its header -/
def packB (a b : AddrM) (n : Nat) (f : UInt8) : List UInt8 := ([69, 0, UInt8.ofNat ((20 + n) / 256), UInt8.ofNat (20 + n)] ++ List.replicate 8 0 ++ a.ip.take 4 ++ b.ip.take 4) ++ pkBody n f
theorem pkBody_length (n : Nat) (f : UInt8) : (pkBody n f).length = n := by simp [pkBody]
theorem pk1_length (n : Nat) (u v : UInt8) : (pk1 n u v).length = 20 + n := by simp [pk1]; omega
theorem pk1_of (n : Nat) (u v : UInt8) : (((pk0 n).set 0 69).set 2 u).set 3 v = pk1 n u v := by
  rw [pk0, show 20 + n = (16 + n) + 4 by omega, pk1]
  rfl
section
variable (n : Nat) (u v : UInt8) (s d : List UInt8) (hs : s.length = 4) (hd : d.length = 4)
include hs
theorem pk2_length : (pk2 n u v s).length = 20 + n := by simp [pk2, hs]; omega
theorem pk2_of : putL (pk1 n u v) 12 s = pk2 n u v s := by
  have h : pk1 n u v = ([69, 0, u, v] ++ List.replicate 8 0) ++ (List.replicate 4 0 ++ List.replicate (4 + n) 0) := by
    rw [pk1, List.append_assoc, List.replicate_append_replicate, List.replicate_append_replicate, show 8 + (4 + (4 + n)) = 16 + n by omega]
  rw [putL, h, hs, List.take_left' (by rfl), ← List.append_assoc ([69, 0, u, v] ++ _), List.drop_left' (by simp), pk2]
include hd
theorem pk3_of : putL (pk2 n u v s) 16 d = pk3 n u v s d := by
  have h : pk2 n u v s = ([69, 0, u, v] ++ List.replicate 8 0 ++ s) ++ (List.replicate 4 0 ++ List.replicate n 0) := by
    rw [pk2, List.replicate_append_replicate]
  rw [putL, h, hd, List.take_left' (by simp [hs]), ← List.append_assoc ([69, 0, u, v] ++ _ ++ _), List.drop_left' (by simp [hs]), pk3]
theorem pkJ_length (f : UInt8) (j : Nat) (h : j ≤ n) : (pkJ n u v s d f j).length = 20 + n := by
  simp [pkJ, hs, hd, pkBody_length]; omega
theorem pkJ_step (f : UInt8) (j : Nat) (h : j < n) : (pkJ n u v s d f j).set (20 + j) (f + UInt8.ofNat (20 + j)) = pkJ n u v s d f (j + 1) := by
  have hl := pkBody_length n f
  have hj : (pkBody n f)[j]'(by omega) = f + UInt8.ofNat (20 + j) := by simp [pkBody]
  have h20 : ([69, 0, u, v] ++ List.replicate 8 0 ++ s ++ d).length = 20 := by simp [hs, hd]
  rw [pkJ, pkJ, List.set_append_right _ _ (by omega), h20, show 20 + j - 20 = j by omega, List.set_append_right _ _ (by rw [List.length_take]; omega), List.length_take, Nat.min_eq_left (by omega), Nat.sub_self, show n - j = (n - (j + 1)) + 1 by omega, List.replicate_succ (n := n - (j + 1)), List.set_cons_zero, List.take_succ_eq_append_getElem (by omega), hj, List.append_assoc (List.take j _)]
  rfl
omit hs hd
theorem pkJ_zero (f : UInt8) : pk3 n u v s d = pkJ n u v s d f 0 := by rw [pk3, pkJ, List.take_zero, List.nil_append, Nat.sub_zero]
theorem pkJ_all (f : UInt8) : pkJ n u v s d f n = ([69, 0, u, v] ++ List.replicate 8 0 ++ s ++ d) ++ pkBody n f := by
  rw [pkJ, Nat.sub_self, List.replicate_zero, List.append_nil, List.take_of_length_le (by rw [pkBody_length]; omega)]
end
theorem ip4_at {W : World} {g : Nat} {a : AddrM} (h : Blk W g 29 a.cells) : ∀ q x, ((a.ip.take 4).map u8v)[q]? = some x → W.cell? ((⟨g, 1, none⟩ : Addr).add q) = some x := by
  intro q x hx
  rw [Go.WideShapes.add_plain]
  refine h.sub 1 4 q x ?_
  rw [AddrM.cells, List.drop_succ_cons, List.drop_zero, ← List.map_take]
  exact hx
theorem Mem.made {w0 W W' : World} {E : List Ent} {t : TypeId} {cs : List Value} (h : Mem w0 E W) (hb : Below W.heap.size W W') (hB : Blk W' W.heap.size t cs) : Mem w0 (blkE W.heap.size t cs :: E) W' :=
  ⟨⟨hB.lt, Nat.le_succ _, hB, h.1.keep (Nat.le_refl _) (fun k _ hk => hb.block k hk)⟩, h.2.trans (hb.mono h.2.size)⟩
set_option maxRecDepth 100000 in
set_option maxHeartbeats 4000000 in
theorem casePacket_any (a b : AddrM) (ha : a.ok) (hb : b.ok) (n : Nat) (hn : n ≤ 10000) (f : UInt8) (w : World) :
    Calls Try.prog 26 #[.agg a.cells.toArray, .agg b.cells.toArray, .int .i64 (n : Int), .int .u8 (f.toNat : Int)] w fun e w' => ∃ g, e = .returned (.slice (some ⟨g, 0, none⟩) (20 + n) (20 + n)) ∧ Mem w [blkE g 5 ((packB a b n f).map u8v)] w' := by
  obtain ⟨i0, hi, hz0, hz1, hz2⟩ := info_parts Try.info5
  have aT : (a.ip.take 4).length = 4 := by rw [List.length_take, ha]; rfl
  have bT : (b.ip.take 4).length = 4 := by rw [List.length_take, hb]; rfl
  obtain ⟨ca, hca⟩ : ∃ x, a.cells.toArray = x := ⟨_, rfl⟩
  obtain ⟨cb, hcb⟩ : ∃ x, b.cells.toArray = x := ⟨_, rfl⟩
  rw [hca, hcb]
  have HM := Lib.hid (show Mem w [blkE (w.heap.size + 1) 29 b.cells, blkE w.heap.size 29 a.cells] ((w.alloc (.cells ca 29)).alloc (.cells cb 29)) from ((Mem.nil w).alloc rfl 29 ca a.cells hca.symm).alloc (by simp) 29 cb b.cells hcb.symm)
  clear hca hcb
  rw [packB]
  obtain ⟨m, hm⟩ : ∃ m, 20 + n = m := ⟨_, rfl⟩
  have hw0 : IntKind.i64.wrap (20 + (n : Int)) = (m : Int) := by rw [IntWalk.i64_in _ (by omega)]; omega
  have hw1 := codeByte_wrap (m / 256)
  have hw2 := codeByte_wrap m
  rw [hm]
  generalize UInt8.ofNat (m / 256) = u at hw1 ⊢
  generalize UInt8.ofNat m = v at hw2 ⊢
  obtain ⟨tl, htl⟩ : ∃ t, ([69, 0, u, v] ++ List.replicate 8 0 ++ a.ip.take 4 ++ b.ip.take 4) ++ pkBody n f = t := ⟨_, rfl⟩
  rw [htl]
  rw [← pkJ_all n u v (a.ip.take 4) (b.ip.take 4) f] at htl
  have HTL := Lib.hid htl
  clear htl
  go_enter Try.func26, Try.ntmps26
  go_upto_region 1 with fail
  generalize ((w.alloc (.cells ca 29)).alloc (.cells cb 29)) = w1 at HM ⊢
  go_upto_region 2 with (refine wpList_make_full _ rfl (.tmp 12) (.tmp 12) 22 rfl w1.heap.size 5 i0 (.int .u8 0) 1 Try.underlying22 hi hz0 hz1 .i64 .i64 m m m rfl rfl rfl rfl (by rw [hz2]; omega) (by unfold maxLen; omega) (Nat.le_refl _) ?_; intro w2 hown1 hg1)
  rw [show (Value.int IntKind.u8 0).cells = #[.int .u8 0] from rfl, toList_madeCells_one, Nat.mul_one] at hown1
  have hP0 := row_blk hown1
  rw [show List.replicate m (Value.int .u8 0) = (pk0 n).map u8v by rw [pk0, hm, List.map_replicate]; rfl] at hP0
  replace HM := Lib.hid (show Mem w [blkE w1.heap.size 5 ((pk0 n).map u8v), blkE (w.heap.size + 1) 29 b.cells, blkE w.heap.size 29 a.cells] w2 from HM.out.made (Below.grown (Below.refl _ _) hg1 (Nat.le_refl _) (by simp)) hP0)
  clear hown1 hg1 hP0
  generalize w1.heap.size = P at HM ⊢
  have pz : ∀ q, q < 4 → ((pk0 n).map u8v)[q]? = some (.int .u8 0) := by
    intro q hq
    rw [pk0, List.getElem?_map, List.getElem?_replicate, if_pos (by omega)]
    rfl
  have f0 := ((HM.out.blk 0 rfl).cell 0).trans (pz 0 (by omega))
  have f2 := ((HM.out.blk 0 rfl).cell 2).trans (pz 2 (by omega))
  have f3 := ((HM.out.blk 0 rfl).cell 3).trans (pz 3 (by omega))
  have z0 := (HM.out.blk 0 rfl).frozen 0
  have z2 := (HM.out.blk 0 rfl).frozen 2
  have z3 := (HM.out.blk 0 rfl).frozen 3
  have m0 : (0 : Int) < (m : Int) := by omega
  have m2 : (2 : Int) < (m : Int) := by omega
  have m3 : (3 : Int) < (m : Int) := by omega
  have m8 : ((m : Int) / 256) = ((m / 256 : Nat) : Int) := by omega
  generalize m / 256 = m9 at hw1 m8
  have HN := Lib.hid (show Mem w [blkE P 5 ((pk1 n u v).map u8v), blkE (w.heap.size + 1) 29 b.cells, blkE w.heap.size 29 a.cells] (((w2.setCell ⟨P, 0, none⟩ (.int .u8 69)).setCell ⟨P, 2, none⟩ (.int .u8 (u.toNat : Int))).setCell ⟨P, 3, none⟩ (.int .u8 (v.toNat : Int))) from by
    have h := ((HM.out.setCell 0 rfl 0 (u8v 69)).setCell 0 rfl 2 (u8v u)).setCell 0 rfl 3 (u8v v)
    rw [← List.map_set, ← List.map_set, ← List.map_set, pk1_of] at h
    exact h)
  clear HM pz
  go_upto_region 3 with fail
  generalize ((w2.setCell ⟨P, 0, none⟩ (.int .u8 69)).setCell ⟨P, 2, none⟩ (.int .u8 (u.toNat : Int))).setCell ⟨P, 3, none⟩ (.int .u8 (v.toNat : Int)) = w3 at HN ⊢
  have HM := Lib.hid HN.out
  clear HN f0 f2 f3 z0 z2 z3 hw0 hw1 hw2 m0 m2 m3 m8
  have m16 : (16 : Int) ≤ (m : Int) := by omega
  have m20 : (20 : Int) ≤ (m : Int) := by omega
  refine wp_region_held_drew (S := fun _ => True) (by kernel_rfl) (trivial) (fun hHeld => ?_)
  replace HM := Lib.hid HM.out.drew
  generalize w3.drew = wd1 at HM hHeld ⊢
  refine take_first (v := ?_) 0 rfl (by kernel_rfl) (by kernel_rfl) (by kernel_rfl) (fun _ _ _ h => h) (Or.inl ⟨by rfl, ?_⟩) (by assumption) ?_
  rotate_left
  · (intro w hSw; (try dsimp only at hSw); go_simp; try with_reducible rfl)
  (try simp only [Act.put, List.setIfInBounds_toArray, List.set_cons_zero, List.set_cons_succ])
  refine take_first (v := ?_) 1 rfl (by kernel_rfl) (by kernel_rfl) (by kernel_rfl) (fun _ _ _ h => h) (Or.inl ⟨by rfl, ?_⟩) (by assumption) ?_
  rotate_left
  · (intro w hSw; (try dsimp only at hSw); go_simp; try with_reducible rfl)
  (try simp only [Act.put, List.setIfInBounds_toArray, List.set_cons_zero, List.set_cons_succ])
  refine take_first (v := ?_) 2 rfl (by kernel_rfl) (by kernel_rfl) (by kernel_rfl) (fun _ _ _ h => h) (Or.inl ⟨by rfl, ?_⟩) (by assumption) ?_
  rotate_left
  · (intro w hSw; (try dsimp only at hSw); go_simp; try with_reducible rfl)
  (try simp only [Act.put, List.setIfInBounds_toArray, List.set_cons_zero, List.set_cons_succ])
  refine take_first (v := ?_) 3 rfl (by kernel_rfl) (by kernel_rfl) (by kernel_rfl) (fun _ _ _ h => h) (Or.inl ⟨by rfl, ?_⟩) (by assumption) ?_
  rotate_left
  · (intro w hSw; (try dsimp only at hSw); go_simp; try with_reducible rfl)
  (try simp only [Act.put, List.setIfInBounds_toArray, List.set_cons_zero, List.set_cons_succ])
  refine step_one 4 rfl (by kernel_rfl) (fun K hK => ?_)
  clear hHeld
  refine step_copy_bytes _ rfl (.tmp 28) (.tmp 30) 22 22 (by rfl) 5 Try.underlying22 (by kernel_rfl) P 12 4 (m - 12) ⟨w.heap.size, 1, none⟩ 4 16 (by show Value.slice (if m = 12 then _ else _) _ _ = _; rw [if_neg (by omega)]) (by rfl) ((pk1 n u v).map u8v) 5 (HM.out.blk 0 rfl) ((a.ip.take 4).map u8v) (by rw [List.length_map, aT]; rfl) (ip4_at (HM.out.blk 2 rfl)) (by rw [List.length_map, List.length_map, aT, pk1_length]; omega) (u8v_one _) ?_
  intro wy2 hb hg
  rw [putL_map, pk2_of _ _ _ _ aT] at hb
  replace HM := Lib.hid (show Mem w [blkE P 5 ((pk2 n u v (a.ip.take 4)).map u8v), blkE (w.heap.size + 1) 29 b.cells, blkE w.heap.size 29 a.cells] wy2 from HM.out.put 0 rfl _ hg hb)
  clear hb hg
  refine hK.out _ _ (trivial) (fun hHeld => ?_)
  clear hK K
  (try simp only [Act.put, List.setIfInBounds_toArray, List.set_cons_zero, List.set_cons_succ])
  refine wpAnyH_done (by kernel_rfl) ?_ _
  clear hHeld
  revert wy2
  intro w4 HM
  go_upto_region 4 with fail
  refine wp_region_held_drew (S := fun _ => True) (by kernel_rfl) (trivial) (fun hHeld => ?_)
  replace HM := Lib.hid HM.out.drew
  generalize w4.drew = wd1 at HM hHeld ⊢
  refine take_first (v := ?_) 0 rfl (by kernel_rfl) (by kernel_rfl) (by kernel_rfl) (fun _ _ _ h => h) (Or.inl ⟨by rfl, ?_⟩) (by assumption) ?_
  rotate_left
  · (intro w hSw; (try dsimp only at hSw); go_simp; try with_reducible rfl)
  (try simp only [Act.put, List.setIfInBounds_toArray, List.set_cons_zero, List.set_cons_succ])
  refine take_first (v := ?_) 1 rfl (by kernel_rfl) (by kernel_rfl) (by kernel_rfl) (fun _ _ _ h => h) (Or.inl ⟨by rfl, ?_⟩) (by assumption) ?_
  rotate_left
  · (intro w hSw; (try dsimp only at hSw); go_simp; try with_reducible rfl)
  (try simp only [Act.put, List.setIfInBounds_toArray, List.set_cons_zero, List.set_cons_succ])
  refine take_first (v := ?_) 2 rfl (by kernel_rfl) (by kernel_rfl) (by kernel_rfl) (fun _ _ _ h => h) (Or.inl ⟨by rfl, ?_⟩) (by assumption) ?_
  rotate_left
  · (intro w hSw; (try dsimp only at hSw); go_simp; try with_reducible rfl)
  (try simp only [Act.put, List.setIfInBounds_toArray, List.set_cons_zero, List.set_cons_succ])
  refine take_first (v := ?_) 3 rfl (by kernel_rfl) (by kernel_rfl) (by kernel_rfl) (fun _ _ _ h => h) (Or.inl ⟨by rfl, ?_⟩) (by assumption) ?_
  rotate_left
  · (intro w hSw; (try dsimp only at hSw); go_simp; try with_reducible rfl)
  (try simp only [Act.put, List.setIfInBounds_toArray, List.set_cons_zero, List.set_cons_succ])
  refine step_one 4 rfl (by kernel_rfl) (fun K hK => ?_)
  clear hHeld
  refine step_copy_bytes _ rfl (.tmp 33) (.tmp 35) 22 22 (by rfl) 5 Try.underlying22 (by kernel_rfl) P 16 4 (m - 16) ⟨(w.heap.size + 1), 1, none⟩ 4 16 (by show Value.slice (if m = 16 then _ else _) _ _ = _; rw [if_neg (by omega)]) (by rfl) ((pk2 n u v (a.ip.take 4)).map u8v) 5 (HM.out.blk 0 rfl) ((b.ip.take 4).map u8v) (by rw [List.length_map, bT]; rfl) (ip4_at (HM.out.blk 1 rfl)) (by rw [List.length_map, List.length_map, bT, pk2_length _ _ _ _ aT]; omega) (u8v_one _) ?_
  intro wy2 hb hg
  rw [putL_map, pk3_of _ _ _ _ _ aT bT] at hb
  replace HM := Lib.hid (show Mem w [blkE P 5 ((pk3 n u v (a.ip.take 4) (b.ip.take 4)).map u8v), blkE (w.heap.size + 1) 29 b.cells, blkE w.heap.size 29 a.cells] wy2 from HM.out.put 0 rfl _ hg hb)
  clear hb hg
  refine hK.out _ _ (trivial) (fun hHeld => ?_)
  clear hK K
  (try simp only [Act.put, List.setIfInBounds_toArray, List.set_cons_zero, List.set_cons_succ])
  refine wpAnyH_done (by kernel_rfl) ?_ _
  clear hHeld
  revert wy2
  intro w5 HM
  have HS := Lib.hid (And.intro (pkJ_length n u v (a.ip.take 4) (b.ip.take 4) aT bT f) (pkJ_step n u v (a.ip.take 4) (b.ip.take 4) aT bT f))
  rw [pkJ_zero n u v (a.ip.take 4) (b.ip.take 4) f] at HM
  generalize (a.ip.take 4) = s at HM HS HTL
  generalize (b.ip.take 4) = d at HM HS HTL
  clear aT bT m16 m20
  go_wp2_with fail
  go_loopw [10] (fun z wr => ∃ j : Nat, j ≤ n ∧ z = .int .i64 ((20 + j : Nat) : Int) ∧ Mem w [blkE P 5 ((pkJ n u v s d f j).map u8v), blkE (w.heap.size + 1) 29 b.cells, blkE w.heap.size 29 a.cells] wr) (fun z _ => 20 + n - (intOf z).toNat)
  case atStart => exact ⟨0, by omega, rfl, HM.out⟩
  case round =>
    clear HM
    obtain ⟨j, hj, rfl, hM⟩ := hrel
    have HM := Lib.hid hM
    clear hM
    obtain ⟨q, hq⟩ : ∃ q, 20 + j = q := ⟨_, rfl⟩
    rw [hq]
    by_cases hlt : j < n
    · have dl : decide ((q : Int) < (m : Int)) = true := by simp; omega
      have bq : (q : Int) < (m : Int) := by omega
      have hcl := HS.out.1 j hj
      have hlk : ((pkJ n u v s d f j).map u8v)[q]? = some (u8v ((pkJ n u v s d f j).getD q 0)) := by rw [List.getElem?_map, List.getD_eq_getElem?_getD, List.getElem?_eq_getElem (by omega)]; rfl
      have fx := ((HM.out.blk 0 rfl).cell q).trans hlk
      generalize u8v ((pkJ n u v s d f j).getD q 0) = y at fx
      have zx := (HM.out.blk 0 rfl).frozen q
      have hst := HS.out.2 j hlt
      rw [hq] at hst
      have hw3 := codeByte_wrap q
      generalize UInt8.ofNat q = t at hw3 hst
      have hw4 : IntKind.u8.wrap ((f.toNat : Int) + (t.toNat : Int)) = ((f + t).toNat : Int) := by rw [IntKind.wrap_u8, UInt8.toNat_add]; omega
      generalize f + t = x at hw4 hst
      have hw5 : IntKind.i64.wrap ((q : Int) + 1) = ((20 + (j + 1) : Nat) : Int) := by rw [IntWalk.i64_in _ (by omega)]; omega
      have HN := Lib.hid (show Mem w [blkE P 5 ((pkJ n u v s d f (j + 1)).map u8v), blkE (w.heap.size + 1) 29 b.cells, blkE w.heap.size 29 a.cells] (wr.setCell ⟨P, q, none⟩ (.int .u8 (x.toNat : Int))) from by have h := HM.out.setCell 0 rfl q (u8v x); rw [← List.map_set, hst] at h; exact h)
      have hqn : q ≤ 20 + n := by omega
      have hq1 : 20 + (j + 1) = q + 1 := by omega
      clear hst hcl hlk HM
      go_wp2
      go_roundw
      case rel => exact ⟨j + 1, by omega, by rw [hq1]; go_num, HN.out⟩
      case measure => simp [intOf]; omega
    · obtain rfl : j = n := by omega
      have dl : decide ((q : Int) < (m : Int)) = false := by simp; omega
      rw [HTL.out] at HM
      go_wp2
      go_ret
      exact ⟨P, rfl, (HM.out.erase 2).erase 1⟩
end Go.Proofs.Ytdpdalkeafkhkaa
