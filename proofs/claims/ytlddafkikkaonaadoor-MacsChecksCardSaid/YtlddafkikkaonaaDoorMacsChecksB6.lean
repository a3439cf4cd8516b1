/-
  The contract of the reference's sealed. The contract of the reference's EncodeInitiation. The contract of the reference's EncodeResponse. The contract of the reference's EncodeCookie. Bytes in memory of the call, of a row, and with a wider range. No statement is proved here.
-/
import Derived.Test.YtlddafkikkaonaaDoorMacsChecksB5
namespace Go.Proofs.YtlddafkikkaonaaDoor
open Go.RowKit

theorem own_low {w w' : World} {base e size n G : Nat} {v : Value} {xs : List Value} (h : w.ownsRow base e size v n xs) (hlt : ∀ k, v.ownBlock = some k → k < G) (hb : Below G w w') : w'.ownsRow base e size v n xs := by
  refine ⟨h.1, ?_⟩
  rcases h.2 with h1 | ⟨g, cap, cur, rfl, hbg, hg, hr⟩
  · exact .inl h1
  · exact .inr ⟨g, cap, cur, rfl, hbg, (hb.block g (hlt g rfl)).trans hg, hr⟩
theorem own_other {w w' : World} {base e size n k : Nat} {v : Value} {xs : List Value} (h : w.ownsRow base e size v n xs) (hg : w.grownBy w' (some k)) (hk : k < base) : w'.ownsRow base e size v n xs := by
  refine ⟨h.1, ?_⟩
  rcases h.2 with h1 | ⟨g, cap, cur, rfl, hbg, hgg, hr⟩
  · exact .inl h1
  · exact .inr ⟨g, cap, cur, rfl, hbg, (hg.block g (h.lt g rfl).2 (fun e => by injection e with e; omega)).trans hgg, hr⟩
theorem MemB.drew {w0 W : World} {B : Nat} {E : List Ent} (h : MemB w0 B E W) : MemB w0 B E W.drew := h.below ((Below.refl _ _).drew)
set_option maxRecDepth 100000 in
set_option maxHeartbeats 8000000 in
theorem refSealed_any (p ck : List UInt8) (hp : p.length = 32) (hck : ck.length = 16) (has : Bool) (A : Option Addr) (n c : Nat) (l : List UInt8) (h32 : 32 ≤ n) (hnc : n ≤ c) (hcx : c ≤ maxLen) (hn6 : n ≤ 100000) (w : World) (hr : Rd w w.heap.size A n l) :
    Calls Tryd.prog 31 #[.agg (p.map u8v).toArray, .bool has, .agg (ck.map u8v).toArray, .slice A n c] w fun e w' => ∃ A' c', e = .returned (.tuple #[.slice A' n c', .agg ((sealedB p has ck l).2.map u8v).toArray]) ∧ w'.ownsRow w.heap.size 5 1 (.slice A' n c') n ((sealedB p has ck l).1.map u8v) ∧ Below w.heap.size w w' := by
  obtain ⟨i0, hi, hz0, hz1, hz2⟩ := info_parts Tryd.info5
  have HR := Lib.hid hr
  have HP := Lib.hid hp
  have HK := Lib.hid hck
  have hl : l.length = n := hr.1
  obtain ⟨cp, hcp⟩ : ∃ z, (p.map u8v).toArray = z := ⟨_, rfl⟩
  obtain ⟨cc, hcc⟩ : ∃ z, (ck.map u8v).toArray = z := ⟨_, rfl⟩
  rw [hcp, hcc]
  have HM := Lib.hid (show Mem w [blkE (w.heap.size + 1 + 1) 30 ((List.replicate 16 (0 : UInt8)).map u8v), blkE (w.heap.size + 1) 30 (ck.map u8v), blkE w.heap.size 23 (p.map u8v)] (((w.alloc (.cells cp 23)).alloc (.cells cc 30)).alloc (.cells #[.int .u8 0, .int .u8 0, .int .u8 0, .int .u8 0, .int .u8 0, .int .u8 0, .int .u8 0, .int .u8 0, .int .u8 0, .int .u8 0, .int .u8 0, .int .u8 0, .int .u8 0, .int .u8 0, .int .u8 0, .int .u8 0] 30)) from (((Mem.nil w).alloc rfl 23 cp (p.map u8v) hcp.symm).alloc (by simp) 30 cc (ck.map u8v) hcc.symm).alloc (by simp) 30 #[.int .u8 0, .int .u8 0, .int .u8 0, .int .u8 0, .int .u8 0, .int .u8 0, .int .u8 0, .int .u8 0, .int .u8 0, .int .u8 0, .int .u8 0, .int .u8 0, .int .u8 0, .int .u8 0, .int .u8 0, .int .u8 0] ((List.replicate 16 (0 : UInt8)).map u8v) rfl)
  obtain ⟨m, hm⟩ : ∃ m, n - 32 = m := ⟨_, rfl⟩
  obtain ⟨gb, go, rfl, -, -⟩ := hr.at_ (by omega)
  have HRT := Lib.hid (hr.take (m := m) (by omega))
  have HMC := Lib.hid (fun W (h : Rd W W.heap.size (some ⟨gb, go, none⟩) m (l.take m)) => refMac1_any p hp (some ⟨gb, go, none⟩) m c (l.take m) (by omega) W h)
  obtain ⟨mt, hmt⟩ : ∃ z, mac1B p (l.take m) = z := ⟨_, rfl⟩
  have HML := Lib.hid (show mt.length = 16 from by rw [← hmt]; exact mac1B_length _ _)
  rw [hmt] at HMC
  obtain ⟨cm, hcm⟩ : ∃ z, (mt.map u8v).toArray = z := ⟨_, rfl⟩
  rw [hcm, hcp] at HMC
  have HCM := Lib.hid hcm
  have HCP := Lib.hid hcp
  have HS := Lib.hid (slice_h (some ⟨gb, go, none⟩) ⟨gb, go, rfl⟩ n c m (by omega))
  obtain ⟨n16, hn16⟩ : ∃ z, m + 16 = z := ⟨_, rfl⟩
  have HV := Lib.hid (show sealedB p has ck l = ((l.take m ++ mt) ++ (if has then codeB ck (l.take m ++ mt) else List.replicate 16 0), mt) from by
    unfold sealedB
    simp only
    rw [hl, hm, hmt])

  have hsb : (n : Int) - 32 = (m : Int) := by omega
  have hsw : IntKind.i64.wrap (m : Int) = (m : Int) := IntWalk.i64_in _ (by omega)
  have HNUM := Lib.hid (And.intro hn16 (And.intro hm (And.intro h32 (And.intro hnc (And.intro hcx hn6)))))
  clear hcp hcc hcm hmt hr hp hck hl hn16
  go_enter Tryd.func31, Tryd.ntmps31
  go_upto_region 1 with fail
  generalize (((w.alloc (.cells cp 23)).alloc (.cells cc 30)).alloc (.cells #[.int .u8 0, .int .u8 0, .int .u8 0, .int .u8 0, .int .u8 0, .int .u8 0, .int .u8 0, .int .u8 0, .int .u8 0, .int .u8 0, .int .u8 0, .int .u8 0, .int .u8 0, .int .u8 0, .int .u8 0, .int .u8 0] 30)) = w1 at HM ⊢
  go_upto_region 2 with fail
  clear hsb hsw
  go_cut [11] (fun p' wx => ∃ P11, p' = .pointer (some ⟨P11, 0, none⟩) ∧ Mem w [blkE P11 30 (mt.map u8v), blkE (w.heap.size + 1 + 1) 30 ((List.replicate 16 (0 : UInt8)).map u8v), blkE (w.heap.size + 1) 30 (ck.map u8v), blkE w.heap.size 23 (p.map u8v)] wx)
  case first =>
    refine wp_region_held_drew (S := fun W' => Mem w [blkE (w.heap.size + 1 + 1) 30 ((List.replicate 16 (0 : UInt8)).map u8v), blkE (w.heap.size + 1) 30 (ck.map u8v), blkE w.heap.size 23 (p.map u8v)] W') (by kernel_rfl) ((HM.out).drew) (fun hHeld => ?_)
    replace HM := Lib.hid HM.out.drew
    generalize w1.drew = wd1 at HM hHeld ⊢
    refine take_first (v := .agg cp) 0 rfl (by kernel_rfl) (by kernel_rfl) (by kernel_rfl) (fun _ _ _ h => h) (by rw [← HCP.out]; exact yields_load_obj (by rfl) 23 (.tmp 4) rfl w.heap.size 0 rfl (p.map u8v) (fun w' hb => (Mem.blk hb 2 rfl).all) _ Tryd.underlying23 rfl (cells32 p HP.out)) (by assumption) ?_
    (try simp only [Act.put, List.setIfInBounds_toArray, List.set_cons_zero, List.set_cons_succ])
    refine take_first (v := ?_) 1 rfl (by kernel_rfl) (by kernel_rfl) (by kernel_rfl) (fun _ _ _ h => h) (Or.inl ⟨by rfl, ?_⟩) (by assumption) ?_
    rotate_left
    · (intro w hSw; (try dsimp only at hSw); go_simp; try with_reducible rfl)
    (try simp only [Act.put, List.setIfInBounds_toArray, List.set_cons_zero, List.set_cons_succ])
    refine take_first (v := ?_) 2 rfl (by kernel_rfl) (by kernel_rfl) (by kernel_rfl) (fun _ _ _ h => h) (Or.inl ⟨by rfl, ?_⟩) (by assumption) ?_
    rotate_left
    · (intro w hSw; (try dsimp only at hSw); go_simp; try with_reducible rfl)
    (try simp only [Act.put, List.setIfInBounds_toArray, List.set_cons_zero, List.set_cons_succ])
    refine take_first (v := ?_) 3 rfl (by kernel_rfl) (by kernel_rfl) (by kernel_rfl) (fun _ _ _ h => h) (Or.inl ⟨by rfl, ?_⟩) (by assumption) ?_
    rotate_left
    · (intro w hSw; (try dsimp only at hSw); have hs := HS.out w; go_simp; try with_reducible rfl)
    (try simp only [Act.put, List.setIfInBounds_toArray, List.set_cons_zero, List.set_cons_succ])
    refine step_two 4 5 rfl rfl (by kernel_rfl) (fun K hK => ?_) (fun K hK => ?_)
    · clear hHeld
      go_simp
      refine (HMC.out _ (HM.out.arg HRT.out)).mono ?_
      rintro e wy2 ⟨rfl, hb⟩
      replace HM := Lib.hid (show Mem w [blkE (w.heap.size + 1 + 1) 30 ((List.replicate 16 (0 : UInt8)).map u8v), blkE (w.heap.size + 1) 30 (ck.map u8v), blkE w.heap.size 23 (p.map u8v)] wy2 from HM.out.below hb)
      clear hb
      go_wp2_with fail
      refine hK.out _ _ (HM.out) (fun hHeld => ?_)
      clear hK K
      (try simp only [Act.put, List.setIfInBounds_toArray, List.set_cons_zero, List.set_cons_succ])
      refine step_one 5 rfl (by kernel_rfl) (fun K hK => ?_)
      clear hHeld
      go_simp
      replace HM := Lib.hid (show Mem w [blkE wy2.heap.size 30 (((List.replicate 16 (0 : UInt8)).map u8v)), blkE (w.heap.size + 1 + 1) 30 ((List.replicate 16 (0 : UInt8)).map u8v), blkE (w.heap.size + 1) 30 (ck.map u8v), blkE w.heap.size 23 (p.map u8v)] (wy2.alloc (.cells #[.int .u8 0, .int .u8 0, .int .u8 0, .int .u8 0, .int .u8 0, .int .u8 0, .int .u8 0, .int .u8 0, .int .u8 0, .int .u8 0, .int .u8 0, .int .u8 0, .int .u8 0, .int .u8 0, .int .u8 0, .int .u8 0] 30)) from HM.out.alloc rfl 30 #[.int .u8 0, .int .u8 0, .int .u8 0, .int .u8 0, .int .u8 0, .int .u8 0, .int .u8 0, .int .u8 0, .int .u8 0, .int .u8 0, .int .u8 0, .int .u8 0, .int .u8 0, .int .u8 0, .int .u8 0, .int .u8 0] (((List.replicate 16 (0 : UInt8)).map u8v)) rfl)
      generalize wy2.alloc (.cells #[.int .u8 0, .int .u8 0, .int .u8 0, .int .u8 0, .int .u8 0, .int .u8 0, .int .u8 0, .int .u8 0, .int .u8 0, .int .u8 0, .int .u8 0, .int .u8 0, .int .u8 0, .int .u8 0, .int .u8 0, .int .u8 0] 30) = wy3 at HM ⊢
      generalize wy2.heap.size = P11 at HM ⊢
      refine hK.out _ _ ((HM.out.erase 0)) (fun hHeld => ?_)
      clear hK K
      (try simp only [Act.put, List.setIfInBounds_toArray, List.set_cons_zero, List.set_cons_succ])
      refine step_one 6 rfl (by kernel_rfl) (fun K hK => ?_)
      clear hHeld
      refine step_store_blk _ rfl 30 (.tmp 11) (.tmp 21) rfl P11 (mt.map u8v) rfl (by show Value.agg cm = _; rw [HCM.out]) 30 ((List.replicate 16 (0 : UInt8)).map u8v) (HM.out.blk 0 rfl) (ae_cellsT mt HML.out) (by rw [List.length_map, List.length_map, HML.out]; rfl) (u8v_one _) ?_
      intro wy4 hb hg
      replace HM := Lib.hid (show Mem w [blkE P11 30 (mt.map u8v), blkE (w.heap.size + 1 + 1) 30 ((List.replicate 16 (0 : UInt8)).map u8v), blkE (w.heap.size + 1) 30 (ck.map u8v), blkE w.heap.size 23 (p.map u8v)] wy4 from HM.out.put 0 rfl _ hg hb)
      clear hb hg
      refine hK.out _ _ ((HM.out.erase 0)) (fun hHeld => ?_)
      clear hK K
      (try simp only [Act.put])
      refine wpAnyH_done (by kernel_rfl) ?_ _
      go_wp2_with fail
      go_meet
      exact ⟨P11, rfl, HM.out⟩
    · clear hHeld
      go_simp
      replace HM := Lib.hid (show Mem w [blkE wd1.heap.size 30 (((List.replicate 16 (0 : UInt8)).map u8v)), blkE (w.heap.size + 1 + 1) 30 ((List.replicate 16 (0 : UInt8)).map u8v), blkE (w.heap.size + 1) 30 (ck.map u8v), blkE w.heap.size 23 (p.map u8v)] (wd1.alloc (.cells #[.int .u8 0, .int .u8 0, .int .u8 0, .int .u8 0, .int .u8 0, .int .u8 0, .int .u8 0, .int .u8 0, .int .u8 0, .int .u8 0, .int .u8 0, .int .u8 0, .int .u8 0, .int .u8 0, .int .u8 0, .int .u8 0] 30)) from HM.out.alloc rfl 30 #[.int .u8 0, .int .u8 0, .int .u8 0, .int .u8 0, .int .u8 0, .int .u8 0, .int .u8 0, .int .u8 0, .int .u8 0, .int .u8 0, .int .u8 0, .int .u8 0, .int .u8 0, .int .u8 0, .int .u8 0, .int .u8 0] (((List.replicate 16 (0 : UInt8)).map u8v)) rfl)
      generalize wd1.alloc (.cells #[.int .u8 0, .int .u8 0, .int .u8 0, .int .u8 0, .int .u8 0, .int .u8 0, .int .u8 0, .int .u8 0, .int .u8 0, .int .u8 0, .int .u8 0, .int .u8 0, .int .u8 0, .int .u8 0, .int .u8 0, .int .u8 0] 30) = wy2 at HM ⊢
      generalize wd1.heap.size = P11 at HM ⊢
      refine hK.out _ _ ((HM.out.erase 0)) (fun hHeld => ?_)
      clear hK K
      (try simp only [Act.put, List.setIfInBounds_toArray, List.set_cons_zero, List.set_cons_succ])
      refine step_one 4 rfl (by kernel_rfl) (fun K hK => ?_)
      clear hHeld
      go_simp
      refine (HMC.out _ (HM.out.arg HRT.out)).mono ?_
      rintro e wy3 ⟨rfl, hb⟩
      replace HM := Lib.hid (show Mem w [blkE P11 30 (((List.replicate 16 (0 : UInt8)).map u8v)), blkE (w.heap.size + 1 + 1) 30 ((List.replicate 16 (0 : UInt8)).map u8v), blkE (w.heap.size + 1) 30 (ck.map u8v), blkE w.heap.size 23 (p.map u8v)] wy3 from HM.out.below hb)
      clear hb
      go_wp2_with fail
      refine hK.out _ _ ((HM.out.erase 0)) (fun hHeld => ?_)
      clear hK K
      (try simp only [Act.put, List.setIfInBounds_toArray, List.set_cons_zero, List.set_cons_succ])
      refine step_one 6 rfl (by kernel_rfl) (fun K hK => ?_)
      clear hHeld
      refine step_store_blk _ rfl 30 (.tmp 11) (.tmp 21) rfl P11 (mt.map u8v) rfl (by show Value.agg cm = _; rw [HCM.out]) 30 ((List.replicate 16 (0 : UInt8)).map u8v) (HM.out.blk 0 rfl) (ae_cellsT mt HML.out) (by rw [List.length_map, List.length_map, HML.out]; rfl) (u8v_one _) ?_
      intro wy4 hb hg
      replace HM := Lib.hid (show Mem w [blkE P11 30 (mt.map u8v), blkE (w.heap.size + 1 + 1) 30 ((List.replicate 16 (0 : UInt8)).map u8v), blkE (w.heap.size + 1) 30 (ck.map u8v), blkE w.heap.size 23 (p.map u8v)] wy4 from HM.out.put 0 rfl _ hg hb)
      clear hb hg
      refine hK.out _ _ ((HM.out.erase 0)) (fun hHeld => ?_)
      clear hK K
      (try simp only [Act.put])
      refine wpAnyH_done (by kernel_rfl) ?_ _
      go_wp2_with fail
      go_meet
      exact ⟨P11, rfl, HM.out⟩
  case rest =>
    clear HM
    revert wc
    intro w3 hcut
    obtain ⟨P11, rfl, hM⟩ := hcut
    have HLT := Lib.hid (show (w.heap.size + 1 + 1) < w3.heap.size from (hM.blk 1 rfl).lt)
    have HM := Lib.hid hM.fix
    generalize w3.heap.size = B at HM HLT
    clear hM
    go_upto_region 3 with fail
    refine wp_region_held_drew (S := fun _ => True) (by kernel_rfl) (trivial) (fun hHeld => ?_)
    replace HM := Lib.hid HM.out.drew
    generalize w3.drew = wd1 at HM hHeld ⊢
    refine take_first (v := ?_) 1 rfl (by kernel_rfl) (by kernel_rfl) (by kernel_rfl) (fun _ _ _ h => h) (Or.inl ⟨by rfl, ?_⟩) (by assumption) ?_
    rotate_left
    · (intro w hSw; (try dsimp only at hSw); go_simp; try with_reducible rfl)
    (try simp only [Act.put, List.setIfInBounds_toArray, List.set_cons_zero, List.set_cons_succ])
    refine take_first (v := ?_) 2 rfl (by kernel_rfl) (by kernel_rfl) (by kernel_rfl) (fun _ _ _ h => h) (Or.inl ⟨by rfl, ?_⟩) (by assumption) ?_
    rotate_left
    · (intro w hSw; (try dsimp only at hSw); go_simp; try with_reducible rfl)
    (try simp only [Act.put, List.setIfInBounds_toArray, List.set_cons_zero, List.set_cons_succ])
    refine take_first (v := ?_) 3 rfl (by kernel_rfl) (by kernel_rfl) (by kernel_rfl) (fun _ _ _ h => h) (Or.inl ⟨by rfl, ?_⟩) (by assumption) ?_
    rotate_left
    · (intro w hSw; (try dsimp only at hSw); have hs := HS.out w; go_simp; try with_reducible rfl)
    (try simp only [Act.put, List.setIfInBounds_toArray, List.set_cons_zero, List.set_cons_succ])
    refine take_first (v := ?_) 5 rfl (by kernel_rfl) (by kernel_rfl) (by kernel_rfl) (fun _ _ _ h => h) (Or.inl ⟨by rfl, ?_⟩) (by assumption) ?_
    rotate_left
    · (intro w hSw; (try dsimp only at hSw); go_simp; try with_reducible rfl)
    (try simp only [Act.put, List.setIfInBounds_toArray, List.set_cons_zero, List.set_cons_succ])
    refine step_one 0 rfl (by kernel_rfl) (fun K hK => ?_)
    clear hHeld
    go_simp
    have hown0 := World.ownsRow_lit (base := B) (e := 5) (size := 1) wd1 #[] 0 HM.out.2.2 (by simp) rfl
    replace HM := Lib.hid (show MemB w B [blkE P11 30 (mt.map u8v), blkE (w.heap.size + 1 + 1) 30 ((List.replicate 16 (0 : UInt8)).map u8v), blkE (w.heap.size + 1) 30 (ck.map u8v), blkE w.heap.size 23 (p.map u8v)] (wd1.alloc (.cells #[] 5)) from HM.out.below ((Below.refl _ _).alloc HM.out.2.2 _))
    generalize wd1.alloc (.cells #[] 5) = wy2 at HM hown0 ⊢
    generalize wd1.heap.size = gq at hown0 ⊢
    have HO := Lib.hid hown0
    clear hown0
    refine hK.out _ _ (trivial) (fun hHeld => ?_)
    clear hK K
    (try simp only [Act.put, List.setIfInBounds_toArray, List.set_cons_zero, List.set_cons_succ])
    refine step_one 4 rfl (by kernel_rfl) (fun K hK => ?_)
    clear hHeld
    refine step_append_rd _ (by rfl) (.tmp 22) (.tmp 25) 24 rfl B 5 i0 (.int .u8 0) Tryd.underlying24 hi hz0 hz1 hz2 rfl (.slice (some ⟨gq, 0, none⟩) 0 0) 0 [] rfl HO.out _ (some ⟨gb, go, none⟩) m c (l.take m) rfl (HM.out.arg HRT.out) (by omega) HM.out.2.2 ?_
    intro v4 wy3 hown hg
    have hmx := HM.out.grown HO.out hg
    replace HM := Lib.hid hmx
    replace HO := Lib.hid (show wy3.ownsRow B 5 1 v4 m ((l.take m).map u8v) from by have h := hown; simp only [Nat.zero_add, List.nil_append] at h; exact h)
    clear hown hg hmx
    refine hK.out _ _ (trivial) (fun hHeld => ?_)
    clear hK K
    (try simp only [Act.put, List.setIfInBounds_toArray, List.set_cons_zero, List.set_cons_succ])
    refine step_one 6 rfl (by kernel_rfl) (fun K hK => ?_)
    clear hHeld
    refine step_append_rd _ (by rfl) (.tmp 26) (.tmp 27) 24 rfl B 5 i0 (.int .u8 0) Tryd.underlying24 hi hz0 hz1 hz2 rfl v4 m ((l.take m).map u8v) rfl HO.out _ (some ⟨P11, 0, none⟩) 16 16 mt rfl (blk_all (HM.out.mem.blk 0 rfl) HML.out) (by omega) HM.out.2.2 ?_
    intro v5 wy4 hown hg
    have hmx := HM.out.grown HO.out hg
    replace HM := Lib.hid hmx
    replace HO := Lib.hid (show wy4.ownsRow B 5 1 v5 n16 ((l.take m ++ mt).map u8v) from by have h := hown; rw [← List.map_append, HNUM.out.1] at h; exact h)
    clear hown hg hmx
    refine hK.out _ _ (trivial) (fun hHeld => ?_)
    clear hK K
    (try simp only [Act.put, List.setIfInBounds_toArray, List.set_cons_zero, List.set_cons_succ])
    refine take_first (v := ?_) 7 rfl (by kernel_rfl) (by kernel_rfl) (by kernel_rfl) (fun _ _ _ h => h) (Or.inl ⟨by rfl, ?_⟩) (by assumption) ?_
    rotate_left
    · (intro w hSw; (try dsimp only at hSw); go_simp; try with_reducible rfl)
    (try simp only [Act.put, List.setIfInBounds_toArray, List.set_cons_zero, List.set_cons_succ])
    refine wpAnyH_done (by kernel_rfl) ?_ _
    clear hHeld
    obtain ⟨A5, c5, rfl, hc5⟩ := own_slice HO.out
    generalize hwf : wy4 = wf at HM HO ⊢
    clear hwf
    go_upto_region 4 with fail
    obtain ⟨m2, hm2⟩ : ∃ z, (if has then codeB ck (l.take m ++ mt) else List.replicate 16 0) = z := ⟨_, rfl⟩
    have HV2 := HV.out
    rw [hm2] at HV2
    replace HV := Lib.hid HV2
    have HL2 := Lib.hid (show m2.length = 16 from by rw [← hm2]; split; exact codeB_length _ _; exact List.length_replicate)
    clear HV2
    have hnew : Blk (wf.alloc (.cells #[.int .u8 0, .int .u8 0, .int .u8 0, .int .u8 0, .int .u8 0, .int .u8 0, .int .u8 0, .int .u8 0, .int .u8 0, .int .u8 0, .int .u8 0, .int .u8 0, .int .u8 0, .int .u8 0, .int .u8 0, .int .u8 0] 30)) wf.heap.size 30 ((List.replicate 16 (0 : UInt8)).map u8v) := Blk.new wf 30 ((List.replicate 16 (0 : UInt8)).map u8v)
    have HMZ := Lib.hid (show MemB w B [blkE P11 30 (mt.map u8v), blkE (w.heap.size + 1 + 1) 30 ((List.replicate 16 (0 : UInt8)).map u8v), blkE (w.heap.size + 1) 30 (ck.map u8v), blkE w.heap.size 23 (p.map u8v)] (wf.alloc (.cells #[.int .u8 0, .int .u8 0, .int .u8 0, .int .u8 0, .int .u8 0, .int .u8 0, .int .u8 0, .int .u8 0, .int .u8 0, .int .u8 0, .int .u8 0, .int .u8 0, .int .u8 0, .int .u8 0, .int .u8 0, .int .u8 0] 30)) ∧ (wf.alloc (.cells #[.int .u8 0, .int .u8 0, .int .u8 0, .int .u8 0, .int .u8 0, .int .u8 0, .int .u8 0, .int .u8 0, .int .u8 0, .int .u8 0, .int .u8 0, .int .u8 0, .int .u8 0, .int .u8 0, .int .u8 0, .int .u8 0] 30)).ownsRow B 5 1 (.slice A5 n16 c5) n16 ((l.take m ++ mt).map u8v) ∧ Blk (wf.alloc (.cells #[.int .u8 0, .int .u8 0, .int .u8 0, .int .u8 0, .int .u8 0, .int .u8 0, .int .u8 0, .int .u8 0, .int .u8 0, .int .u8 0, .int .u8 0, .int .u8 0, .int .u8 0, .int .u8 0, .int .u8 0, .int .u8 0] 30)) wf.heap.size 30 ((List.replicate 16 (0 : UInt8)).map u8v) from ⟨HM.out.below ((Below.refl _ _).alloc HM.out.2.2 _), own_below HO.out ((Below.refl _ _).alloc (Nat.le_refl _) _), hnew⟩)
    have HG := Lib.hid (show B ≤ wf.heap.size ∧ ∀ k, (Value.slice A5 n16 c5).ownBlock = some k → k < wf.heap.size from ⟨HM.out.2.2, fun k hk => (HO.out.lt k hk).2⟩)
    clear hnew HM HO
    go_upto_if 29 with fail
    generalize wf.alloc (.cells #[.int .u8 0, .int .u8 0, .int .u8 0, .int .u8 0, .int .u8 0, .int .u8 0, .int .u8 0, .int .u8 0, .int .u8 0, .int .u8 0, .int .u8 0, .int .u8 0, .int .u8 0, .int .u8 0, .int .u8 0, .int .u8 0] 30) = wz at HMZ ⊢
    generalize wf.heap.size = g13 at HMZ HG ⊢
    go_cut [13] (fun p' wx => ∃ G13, p' = .pointer (some ⟨G13, 0, none⟩) ∧ MemB w B [blkE P11 30 (mt.map u8v), blkE (w.heap.size + 1 + 1) 30 ((List.replicate 16 (0 : UInt8)).map u8v), blkE (w.heap.size + 1) 30 (ck.map u8v), blkE w.heap.size 23 (p.map u8v)] wx ∧ wx.ownsRow B 5 1 (.slice A5 n16 c5) n16 ((l.take m ++ mt).map u8v) ∧ Blk wx G13 30 (m2.map u8v))
    case first =>
      cases has
      · rw [if_neg (by decide)] at hm2
        subst hm2
        go_wp2_with fail
        go_meet
        exact ⟨g13, rfl, HMZ.out.1, HMZ.out.2.1, HMZ.out.2.2⟩
      · rw [if_pos rfl] at hm2
        have HM := Lib.hid (show MemB w B [blkE P11 30 (mt.map u8v), blkE (w.heap.size + 1 + 1) 30 ((List.replicate 16 (0 : UInt8)).map u8v), blkE (w.heap.size + 1) 30 (ck.map u8v), blkE w.heap.size 23 (p.map u8v)] (wz.alloc (.cells #[.slice A5 n16 c5] 24)) from HMZ.out.1.below ((Below.refl _ _).alloc HMZ.out.1.2.2 _))
        have HO := Lib.hid (own_below HMZ.out.2.1 ((Below.refl _ _).alloc (Nat.le_refl _) (.cells #[.slice A5 n16 c5] 24)))
        have HB := Lib.hid (Blk.below HMZ.out.2.2 ((Below.refl _ _).alloc (Nat.le_refl _) (.cells #[.slice A5 n16 c5] 24)) HMZ.out.2.2.lt)
        have hnb : Blk (wz.alloc (.cells #[.slice A5 n16 c5] 24)) wz.heap.size 24 [.slice A5 n16 c5] := Blk.new wz 24 [.slice A5 n16 c5]
        have HNB := Lib.hid hnb
        clear hnb HMZ
        go_wp2_with fail
        generalize wz.alloc (.cells #[.slice A5 n16 c5] 24) = wy at HM HO HB HNB ⊢
        generalize wz.heap.size = g15 at HNB ⊢
        have hps := parts_rd (g := g15) (t := 24) (ps := [⟨A5, n16, c5, l.take m ++ mt⟩]) HNB.out (by
          intro x hx
          simp only [List.mem_cons, List.not_mem_nil, or_false] at hx
          rcases hx with rfl
          exact Rd.of_own HO.out)
        have hfl : flat [⟨A5, n16, c5, l.take m ++ mt⟩] 1 = l.take m ++ mt := by simp [flat]
        have hol := (Rd.of_own HO.out).1
        have HC := refCode_any (some ⟨(w.heap.size + 1), 0, none⟩) 16 16 ck 1 (some ⟨g15, 0, none⟩) [⟨A5, n16, c5, l.take m ++ mt⟩] (by simp) (by show (flat _ 1).length ≤ _; rw [hfl, hol]; have := HNUM.out; omega) wy (blk_all (HM.out.mem.blk 2 rfl) HK.out) hps
        rw [show ([⟨A5, n16, c5, l.take m ++ mt⟩] : List Part).length = 1 from rfl, hfl, hm2] at HC
        obtain ⟨c2, hc2⟩ : ∃ z, (m2.map u8v).toArray = z := ⟨_, rfl⟩
        rw [hc2] at HC
        have HC2 := Lib.hid hc2
        have HCC := Lib.hid HC
        clear HC hps hfl hol hc2 hm2
        refine HCC.out.mono ?_
        rintro e w7 ⟨rfl, hb⟩
        have HM7 := Lib.hid (show MemB w B [blkE P11 30 (mt.map u8v), blkE (w.heap.size + 1 + 1) 30 ((List.replicate 16 (0 : UInt8)).map u8v), blkE (w.heap.size + 1) 30 (ck.map u8v), blkE w.heap.size 23 (p.map u8v)] w7 ∧ w7.ownsRow B 5 1 (.slice A5 n16 c5) n16 ((l.take m ++ mt).map u8v) ∧ Blk w7 g13 30 ((List.replicate 16 (0 : UInt8)).map u8v) from ⟨HM.out.below (hb.mono HM.out.2.2), own_below HO.out hb, HB.out.below hb HB.out.lt⟩)
        clear hb HCC HM HO HB HNB
        go_wp2_with (refine wpList_store_blk rfl 30 (.tmp 13) (.tmp 33) rfl g13 (m2.map u8v) rfl (by show Value.agg c2 = _; rw [HC2.out]) 30 ((List.replicate 16 (0 : UInt8)).map u8v) HM7.out.2.2 (ae_cellsT m2 HL2.out) (by rw [List.length_map, List.length_map, HL2.out]; rfl) (u8v_one _) ?_; intro w9 hb9 hg9)
        go_meet
        have hbz : Below g13 w7 w9 := (Below.refl _ _).grown hg9 (Nat.le_of_lt HM7.out.2.2.lt) (by intro k hk; injection hk with hk; omega)
        exact ⟨g13, rfl, HM7.out.1.below (hbz.mono HG.out.1), own_low HM7.out.2.1 HG.out.2 hbz, hb9⟩
    case rest =>
      clear HMZ HG
      revert wc
      intro w8 hcut
      obtain ⟨G13, rfl, hM, hO, hB13⟩ := hcut
      have HM := Lib.hid hM
      have HO := Lib.hid hO
      have HB13 := Lib.hid hB13
      have HN2 := Lib.hid (show n16 + 16 = n from by have := HNUM.out; omega)
      clear hM hO hB13 hm2 hm h32 hnc hcx hn6 hc5
      go_upto_region 7 with fail
      refine wp_region_held_drew (S := fun W' => Blk W' P11 30 (mt.map u8v)) (by kernel_rfl) (HM.out.drew.mem.blk 0 rfl) (fun hHeld => ?_)
      replace HM := Lib.hid HM.out.drew
      replace HO := Lib.hid (own_below HO.out ((Below.refl _ w8).drew))
      replace HB13 := Lib.hid (HB13.out.below ((Below.refl _ w8).drew) HB13.out.lt)
      generalize w8.drew = wd1 at HM HO HB13 hHeld ⊢
      refine take_first (v := ?_) 0 rfl (by kernel_rfl) (by kernel_rfl) (by kernel_rfl) (fun _ _ _ h => h) (Or.inl ⟨by rfl, ?_⟩) (by assumption) ?_
      rotate_left
      · (intro w hSw; (try dsimp only at hSw); go_simp; try with_reducible rfl)
      (try simp only [Act.put, List.setIfInBounds_toArray, List.set_cons_zero, List.set_cons_succ])
      refine take_first (v := ?_) 1 rfl (by kernel_rfl) (by kernel_rfl) (by kernel_rfl) (fun _ _ _ h => h) (Or.inl ⟨by rfl, ?_⟩) (by assumption) ?_
      rotate_left
      · (intro w hSw; (try dsimp only at hSw); go_simp; try with_reducible rfl)
      (try simp only [Act.put, List.setIfInBounds_toArray, List.set_cons_zero, List.set_cons_succ])
      refine take_first (v := .agg cm) 3 rfl (by kernel_rfl) (by kernel_rfl) (by kernel_rfl) (fun _ _ _ h => h) (by rw [← HCM.out]; exact yields_load_obj (by rfl) 30 (.tmp 11) rfl P11 0 rfl (mt.map u8v) (fun w' hb => Blk.all hb) _ Tryd.underlying30 rfl (ae_cellsT mt HML.out)) (by assumption) ?_
      (try simp only [Act.put, List.setIfInBounds_toArray, List.set_cons_zero, List.set_cons_succ])
      refine step_one 2 rfl (by kernel_rfl) (fun K hK => ?_)
      clear hHeld
      refine step_append_rd _ (by rfl) (.tmp 34) (.tmp 35) 24 rfl B 5 i0 (.int .u8 0) Tryd.underlying24 hi hz0 hz1 hz2 rfl (.slice A5 n16 c5) n16 ((l.take m ++ mt).map u8v) rfl HO.out _ (some ⟨G13, 0, none⟩) 16 16 m2 rfl (blk_all HB13.out HL2.out) (by have := HNUM.out; omega) HM.out.2.2 ?_
      intro v9 wy2 hown hg
      replace HM := Lib.hid (HM.out.grown HO.out hg)
      replace HO := Lib.hid (show wy2.ownsRow B 5 1 v9 n (((l.take m ++ mt) ++ m2).map u8v) from by have h := hown; rw [← List.map_append, HN2.out] at h; exact h)
      clear hown hg HB13
      obtain ⟨A9, c9, rfl, -⟩ := own_slice HO.out
      refine hK.out _ _ (HM.out.mem.blk 0 rfl) (fun hHeld => ?_)
      clear hK K
      (try simp only [Act.put, List.setIfInBounds_toArray, List.set_cons_zero, List.set_cons_succ])
      refine take_first (v := ?_) 4 rfl (by kernel_rfl) (by kernel_rfl) (by kernel_rfl) (fun _ _ _ h => h) (Or.inl ⟨by rfl, ?_⟩) (by assumption) ?_
      rotate_left
      · (intro w hSw; (try dsimp only at hSw); go_simp; try with_reducible rfl)
      (try simp only [Act.put, List.setIfInBounds_toArray, List.set_cons_zero, List.set_cons_succ])
      refine step_one 5 rfl (by kernel_rfl) (fun K hK => ?_)
      clear hHeld
      refine step_store_blk _ rfl 30 (.tmp 9) (.tmp 37) rfl (w.heap.size + 1 + 1) (mt.map u8v) rfl (by show Value.agg cm = _; rw [HCM.out]) 30 ((List.replicate 16 (0 : UInt8)).map u8v) (HM.out.mem.blk 1 rfl) (ae_cellsT mt HML.out) (by rw [List.length_map, List.length_map, HML.out]; rfl) (u8v_one _) ?_
      intro wy3 hb hg
      have HF := Lib.hid (show Below w.heap.size w wy3 ∧ Blk wy3 (w.heap.size + 1 + 1) 30 (mt.map u8v) ∧ wy3.ownsRow B 5 1 (.slice A9 n c9) n (((l.take m ++ mt) ++ m2).map u8v) ∧ Blk wy3 P11 30 (mt.map u8v) from ⟨(HM.out.mem.put 1 rfl _ hg hb).bel, hb, own_other HO.out hg HLT.out, (HM.out.mem.put 1 rfl _ hg hb).blk 0 rfl⟩)
      clear hb hg
      refine hK.out _ _ (HF.out.2.2.2) (fun hHeld => ?_)
      clear hK K
      (try simp only [Act.put])
      refine wpAnyH_done (by kernel_rfl) ?_ _
      clear hHeld
      go_wp2_with fail
      exact bodyPost_ret (results_tmp_obj rfl _ _ (w.heap.size + 1 + 1) 30 (mt.map u8v) _ rfl HF.out.2.1 Tryd.underlying30 rfl (ae_cellsT mt HML.out)) rfl ⟨A9, c9, by rw [HV.out]; rfl, by rw [HV.out]; exact own_base HF.out.2.2.1 (by have := HLT.out; omega), HF.out.1⟩
end Go.Proofs.YtlddafkikkaonaaDoor
namespace Go.Proofs.YtlddafkikkaonaaDoor
open Go.RowKit

theorem refEnc1_parts (s : Nat) (bs : List UInt8) (hb : bs.length = 140) : (msHead 1 ++ (littleL s 4 ++ ((bs.drop 0).take 32 ++ ((bs.drop 32).take 48 ++ ((bs.drop 80).take 28 ++ ((bs.drop 108).take 16 ++ ((bs.drop 124).take 16))))))) = encB 1 (MsgM.mk [s] bs) := by
  have e : (bs.drop 0).take 32 ++ ((bs.drop 32).take 48 ++ ((bs.drop 80).take 28 ++ ((bs.drop 108).take 16 ++ ((bs.drop 124).take 16)))) = bs := by
    apply List.ext_getElem
    · simp only [List.length_append, List.length_take, List.length_drop]; omega
    · intro i h1 h2
      simp only [List.getElem_append, List.getElem_take, List.getElem_drop, List.length_take, List.length_drop]
      repeat' split
      all_goals (congr 1; omega)
  rw [e]
  simp only [encB, numsB, List.flatMap_cons, List.flatMap_nil, List.append_nil, List.append_assoc]
set_option maxRecDepth 100000 in
set_option maxHeartbeats 8000000 in
theorem refEnc1 : MsEncC 32 1 := by
  intro m0 hok w
  obtain ⟨nums, bs⟩ := m0
  obtain ⟨s, hnum⟩ : ∃ s, nums = [s] := by
    have h := hok.1
    match nums, h with
    | [s], _ => exact ⟨s, rfl⟩
  subst hnum
  have HOK := Lib.hid hok
  have HU0 := Lib.hid (refU32_any s (hok.2.2 s (by simp)))
  have HLEN := Lib.hid (show (encB 1 (MsgM.mk [s] bs)).length = 148 from encB_length hok)
  have hfl := refEnc1_parts s bs hok.2.1
  obtain ⟨cm, hcm⟩ : ∃ z, (MsgM.mk [s] bs).cells.toArray = z := ⟨_, rfl⟩
  have HM := Lib.hid (show Lows w [blkL w.heap.size 35 (MsgM.mk [s] bs).cells] (w.alloc (.cells cm 35)) from (Lows.nil w).alloc 35 cm (MsgM.mk [s] bs).cells hcm.symm)
  rw [hcm]
  have HFL := Lib.hid (show ([(msHead 1 : List UInt8), (littleL s 4 : List UInt8), ((bs.drop 0).take 32 : List UInt8), ((bs.drop 32).take 48 : List UInt8), ((bs.drop 80).take 28 : List UInt8), ((bs.drop 108).take 16 : List UInt8), ((bs.drop 124).take 16 : List UInt8)] : List (List UInt8)).flatten = encB 1 (MsgM.mk [s] bs) from by
    rw [← hfl]; simp only [List.flatten_cons, List.flatten_nil, List.append_nil])
  clear hok hfl hcm
  go_enter Tryd.func32, Tryd.ntmps32
  go_upto_region 1 with fail
  generalize w.alloc (.cells cm 35) = w1 at HM ⊢
  refine wp_region_held_drew (S := fun W' => Lows w [blkL w.heap.size 35 (MsgM.mk [s] bs).cells] W') (by kernel_rfl) (HM.out.drew) (fun hHeld => ?_)
  replace HM := Lib.hid HM.out.drew
  generalize w1.drew = wd1 at HM hHeld ⊢
  refine take_first (v := ?_) 1 rfl (by kernel_rfl) (by kernel_rfl) (by kernel_rfl) (fun _ _ _ h => h) (Or.inl ⟨by rfl, ?_⟩) (by assumption) ?_
  rotate_left
  · (intro w hSw; (try dsimp only at hSw); go_simp; try with_reducible rfl)
  (try simp only [Act.put, List.setIfInBounds_toArray, List.set_cons_zero, List.set_cons_succ])
  refine take_first (v := ?_) 2 rfl (by kernel_rfl) (by kernel_rfl) (by kernel_rfl) (fun _ _ _ h => h) (Or.inl ⟨by rfl, ?_⟩) (by assumption) ?_
  rotate_left
  · (intro w hSw; (try dsimp only at hSw); have fl := msg_num (Lows.blk hSw 0 rfl) 0 s rfl; go_simp; try with_reducible rfl)
  (try simp only [Act.put, List.setIfInBounds_toArray, List.set_cons_zero, List.set_cons_succ])
  refine take_first (v := ?_) 4 rfl (by kernel_rfl) (by kernel_rfl) (by kernel_rfl) (fun _ _ _ h => h) (Or.inl ⟨by rfl, ?_⟩) (by assumption) ?_
  rotate_left
  · (intro w hSw; (try dsimp only at hSw); go_simp; try with_reducible rfl)
  (try simp only [Act.put, List.setIfInBounds_toArray, List.set_cons_zero, List.set_cons_succ])
  refine take_first (v := ?_) 5 rfl (by kernel_rfl) (by kernel_rfl) (by kernel_rfl) (fun _ _ _ h => h) (Or.inl ⟨by rfl, ?_⟩) (by assumption) ?_
  rotate_left
  · (intro w hSw; (try dsimp only at hSw); go_simp; try with_reducible rfl)
  (try simp only [Act.put, List.setIfInBounds_toArray, List.set_cons_zero, List.set_cons_succ])
  refine take_first (v := ?_) 6 rfl (by kernel_rfl) (by kernel_rfl) (by kernel_rfl) (fun _ _ _ h => h) (Or.inl ⟨by rfl, ?_⟩) (by assumption) ?_
  rotate_left
  · (intro w hSw; (try dsimp only at hSw); go_simp; try with_reducible rfl)
  (try simp only [Act.put, List.setIfInBounds_toArray, List.set_cons_zero, List.set_cons_succ])
  refine take_first (v := ?_) 7 rfl (by kernel_rfl) (by kernel_rfl) (by kernel_rfl) (fun _ _ _ h => h) (Or.inl ⟨by rfl, ?_⟩) (by assumption) ?_
  rotate_left
  · (intro w hSw; (try dsimp only at hSw); go_simp; try with_reducible rfl)
  (try simp only [Act.put, List.setIfInBounds_toArray, List.set_cons_zero, List.set_cons_succ])
  refine take_first (v := ?_) 8 rfl (by kernel_rfl) (by kernel_rfl) (by kernel_rfl) (fun _ _ _ h => h) (Or.inl ⟨by rfl, ?_⟩) (by assumption) ?_
  rotate_left
  · (intro w hSw; (try dsimp only at hSw); go_simp; try with_reducible rfl)
  (try simp only [Act.put, List.setIfInBounds_toArray, List.set_cons_zero, List.set_cons_succ])
  refine take_first (v := ?_) 9 rfl (by kernel_rfl) (by kernel_rfl) (by kernel_rfl) (fun _ _ _ h => h) (Or.inl ⟨by rfl, ?_⟩) (by assumption) ?_
  rotate_left
  · (intro w hSw; (try dsimp only at hSw); go_simp; try with_reducible rfl)
  (try simp only [Act.put, List.setIfInBounds_toArray, List.set_cons_zero, List.set_cons_succ])
  refine take_first (v := ?_) 10 rfl (by kernel_rfl) (by kernel_rfl) (by kernel_rfl) (fun _ _ _ h => h) (Or.inl ⟨by rfl, ?_⟩) (by assumption) ?_
  rotate_left
  · (intro w hSw; (try dsimp only at hSw); go_simp; try with_reducible rfl)
  (try simp only [Act.put, List.setIfInBounds_toArray, List.set_cons_zero, List.set_cons_succ])
  refine take_first (v := ?_) 11 rfl (by kernel_rfl) (by kernel_rfl) (by kernel_rfl) (fun _ _ _ h => h) (Or.inl ⟨by rfl, ?_⟩) (by assumption) ?_
  rotate_left
  · (intro w hSw; (try dsimp only at hSw); go_simp; try with_reducible rfl)
  (try simp only [Act.put, List.setIfInBounds_toArray, List.set_cons_zero, List.set_cons_succ])
  refine take_first (v := ?_) 12 rfl (by kernel_rfl) (by kernel_rfl) (by kernel_rfl) (fun _ _ _ h => h) (Or.inl ⟨by rfl, ?_⟩) (by assumption) ?_
  rotate_left
  · (intro w hSw; (try dsimp only at hSw); go_simp; try with_reducible rfl)
  (try simp only [Act.put, List.setIfInBounds_toArray, List.set_cons_zero, List.set_cons_succ])
  refine take_first (v := ?_) 13 rfl (by kernel_rfl) (by kernel_rfl) (by kernel_rfl) (fun _ _ _ h => h) (Or.inl ⟨by rfl, ?_⟩) (by assumption) ?_
  rotate_left
  · (intro w hSw; (try dsimp only at hSw); go_simp; try with_reducible rfl)
  (try simp only [Act.put, List.setIfInBounds_toArray, List.set_cons_zero, List.set_cons_succ])
  refine step_two 0 3 rfl rfl (by kernel_rfl) (fun K hK => ?_) (fun K hK => ?_)
  · clear hHeld
    go_simp
    have hm9 := HM.out.alloc 5 #[.int .u8 1, .int .u8 0, .int .u8 0, .int .u8 0] ((msHead 1).map u8v) rfl
    generalize wd1.alloc (.cells #[.int .u8 1, .int .u8 0, .int .u8 0, .int .u8 0] 5) = wy2 at hm9 ⊢
    generalize wd1.heap.size = g4 at hm9 ⊢
    replace HM := Lib.hid (show Lows w [rdL (some ⟨g4, 0, none⟩) 4 (msHead 1), blkL w.heap.size 35 (MsgM.mk [s] bs).cells] wy2 from (hm9.cons (rdL (some ⟨g4, 0, none⟩) 4 (msHead 1)) (blk_all (hm9.blk 0 rfl) rfl)).tail 1)
    clear hm9
    refine hK.out _ _ (HM.out.tail 0) (fun hHeld => ?_)
    clear hK K
    (try simp only [Act.put, List.setIfInBounds_toArray, List.set_cons_zero, List.set_cons_succ])
    refine wpAnyH_stronger (T := fun W' => Lows w [rdL (some ⟨g4, 0, none⟩) 4 (msHead 1), blkL w.heap.size 35 (MsgM.mk [s] bs).cells] W') (fun _ h' => (h'.tail 0)) _ _ _ _ ?_
    replace hHeld := HM.out
    refine step_one 3 rfl (by kernel_rfl) (fun K hK => ?_)
    clear hHeld
    go_simp
    refine (HU0.out _).mono ?_
    rintro e wy3 ⟨A0, c0, rfl, hr, hb⟩
    replace HM := Lib.hid (show Lows w [rdL A0 4 (littleL s 4), rdL (some ⟨g4, 0, none⟩) 4 (msHead 1), blkL w.heap.size 35 (MsgM.mk [s] bs).cells] wy3 from (HM.out.below hb).cons (rdL A0 4 (littleL s 4)) (hr))
    clear hb
    go_wp2_with fail
    refine hK.out _ _ (HM.out.tail 0) (fun hHeld => ?_)
    clear hK K
    (try simp only [Act.put, List.setIfInBounds_toArray, List.set_cons_zero, List.set_cons_succ])
    refine wpAnyH_stronger (T := fun W' => Lows w [rdL A0 4 (littleL s 4), rdL (some ⟨g4, 0, none⟩) 4 (msHead 1), blkL w.heap.size 35 (MsgM.mk [s] bs).cells] W') (fun _ h' => (h'.tail 0)) _ _ _ _ ?_
    replace hHeld := HM.out
    refine step_one 14 rfl (by kernel_rfl) (fun K hK => ?_)
    clear hHeld
    go_simp
    have hm9 := HM.out.alloc 24 #[.slice (some ⟨g4, 0, none⟩) 4 4, .slice A0 4 c0, .slice (some ⟨w.heap.size, 1, none⟩) 32 32, .slice (some ⟨w.heap.size, 33, none⟩) 48 48, .slice (some ⟨w.heap.size, 81, none⟩) 28 28, .slice (some ⟨w.heap.size, 109, none⟩) 16 16, .slice (some ⟨w.heap.size, 125, none⟩) 16 16] ([.slice (some ⟨g4, 0, none⟩) 4 4, .slice A0 4 c0, .slice (some ⟨w.heap.size, 1, none⟩) 32 32, .slice (some ⟨w.heap.size, 33, none⟩) 48 48, .slice (some ⟨w.heap.size, 81, none⟩) 28 28, .slice (some ⟨w.heap.size, 109, none⟩) 16 16, .slice (some ⟨w.heap.size, 125, none⟩) 16 16]) rfl
    generalize wy3.alloc (.cells #[.slice (some ⟨g4, 0, none⟩) 4 4, .slice A0 4 c0, .slice (some ⟨w.heap.size, 1, none⟩) 32 32, .slice (some ⟨w.heap.size, 33, none⟩) 48 48, .slice (some ⟨w.heap.size, 81, none⟩) 28 28, .slice (some ⟨w.heap.size, 109, none⟩) 16 16, .slice (some ⟨w.heap.size, 125, none⟩) 16 16] 24) = wy4 at hm9 ⊢
    generalize wy3.heap.size = g7 at hm9 ⊢
    replace HM := Lib.hid (show Lows w [blkL g7 24 ([.slice (some ⟨g4, 0, none⟩) 4 4, .slice A0 4 c0, .slice (some ⟨w.heap.size, 1, none⟩) 32 32, .slice (some ⟨w.heap.size, 33, none⟩) 48 48, .slice (some ⟨w.heap.size, 81, none⟩) 28 28, .slice (some ⟨w.heap.size, 109, none⟩) 16 16, .slice (some ⟨w.heap.size, 125, none⟩) 16 16]), rdL A0 4 (littleL s 4), rdL (some ⟨g4, 0, none⟩) 4 (msHead 1), blkL w.heap.size 35 (MsgM.mk [s] bs).cells] wy4 from hm9)
    clear hm9
    refine hK.out _ _ (HM.out.tail 0) (fun hHeld => ?_)
    clear hK K
    (try simp only [Act.put, List.setIfInBounds_toArray, List.set_cons_zero, List.set_cons_succ])
    refine wpAnyH_stronger (T := fun W' => Lows w [blkL g7 24 ([.slice (some ⟨g4, 0, none⟩) 4 4, .slice A0 4 c0, .slice (some ⟨w.heap.size, 1, none⟩) 32 32, .slice (some ⟨w.heap.size, 33, none⟩) 48 48, .slice (some ⟨w.heap.size, 81, none⟩) 28 28, .slice (some ⟨w.heap.size, 109, none⟩) 16 16, .slice (some ⟨w.heap.size, 125, none⟩) 16 16]), rdL A0 4 (littleL s 4), rdL (some ⟨g4, 0, none⟩) 4 (msHead 1), blkL w.heap.size 35 (MsgM.mk [s] bs).cells] W') (fun _ h' => (h'.tail 0)) _ _ _ _ ?_
    replace hHeld := HM.out
    refine step_one 15 rfl (by kernel_rfl) (fun K hK => ?_)
    clear hHeld
    go_simp
    refine (refJoin_rows g7 24 [⟨(some ⟨g4, 0, none⟩), 4, 4, msHead 1⟩, ⟨A0, 4, c0, littleL s 4⟩, ⟨(some ⟨w.heap.size, 1, none⟩), 32, 32, (bs.drop 0).take 32⟩, ⟨(some ⟨w.heap.size, 33, none⟩), 48, 48, (bs.drop 32).take 48⟩, ⟨(some ⟨w.heap.size, 81, none⟩), 28, 28, (bs.drop 80).take 28⟩, ⟨(some ⟨w.heap.size, 109, none⟩), 16, 16, (bs.drop 108).take 16⟩, ⟨(some ⟨w.heap.size, 125, none⟩), 16, 16, (bs.drop 124).take 16⟩] 7 rfl (by omega) (encB 1 (MsgM.mk [s] bs)) HFL.out 148 HLEN.out (by omega) _ (HM.out.blk 0 rfl) (by
      intro p hp
      simp only [List.mem_cons, List.not_mem_nil, or_false] at hp
      rcases hp with rfl | rfl | rfl | rfl | rfl | rfl | rfl
      · exact HM.out.rd 2 rfl
      · exact HM.out.rd 1 rfl
      · exact msg_rd (HM.out.blk 3 rfl) HOK.out 1 0 32 rfl (by decide)
      · exact msg_rd (HM.out.blk 3 rfl) HOK.out 33 32 48 rfl (by decide)
      · exact msg_rd (HM.out.blk 3 rfl) HOK.out 81 80 28 rfl (by decide)
      · exact msg_rd (HM.out.blk 3 rfl) HOK.out 109 108 16 rfl (by decide)
      · exact msg_rd (HM.out.blk 3 rfl) HOK.out 125 124 16 rfl (by decide)
      )).mono ?_
    rintro e wy5 ⟨A9, c9, rfl, hc1, hc2, hr, hb⟩
    have HRES := Lib.hid (And.intro hc1 (And.intro hc2 (And.intro hr (HM.out.below hb).bel)))
    replace HM := Lib.hid (show Lows w [blkL g7 24 ([.slice (some ⟨g4, 0, none⟩) 4 4, .slice A0 4 c0, .slice (some ⟨w.heap.size, 1, none⟩) 32 32, .slice (some ⟨w.heap.size, 33, none⟩) 48 48, .slice (some ⟨w.heap.size, 81, none⟩) 28 28, .slice (some ⟨w.heap.size, 109, none⟩) 16 16, .slice (some ⟨w.heap.size, 125, none⟩) 16 16]), rdL A0 4 (littleL s 4), rdL (some ⟨g4, 0, none⟩) 4 (msHead 1), blkL w.heap.size 35 (MsgM.mk [s] bs).cells] wy5 from HM.out.below hb)
    clear hr hb hc1 hc2
    go_wp2_with fail
    refine hK.out _ _ (HM.out) (fun hHeld => ?_)
    clear hK K
    (try simp only [Act.put, List.setIfInBounds_toArray, List.set_cons_zero, List.set_cons_succ])
    refine take_first (v := ?_) 16 rfl (by kernel_rfl) (by kernel_rfl) (by kernel_rfl) (fun _ _ _ h => h) (Or.inl ⟨by rfl, ?_⟩) (by assumption) ?_
    rotate_left
    · (intro w hSw; (try dsimp only at hSw); go_simp; try with_reducible rfl)
    (try simp only [Act.put, List.setIfInBounds_toArray, List.set_cons_zero, List.set_cons_succ])
    refine wpAnyH_done (by kernel_rfl) ?_ _
    clear HM hHeld
    go_wp2_with fail
    go_ret
    exact ⟨A9, c9, rfl, HRES.out.1, HRES.out.2.1, HRES.out.2.2.1, HRES.out.2.2.2⟩
  · clear hHeld
    go_simp
    refine (HU0.out _).mono ?_
    rintro e wy2 ⟨A0, c0, rfl, hr, hb⟩
    replace HM := Lib.hid (show Lows w [rdL A0 4 (littleL s 4), blkL w.heap.size 35 (MsgM.mk [s] bs).cells] wy2 from (HM.out.below hb).cons (rdL A0 4 (littleL s 4)) (hr))
    clear hb
    go_wp2_with fail
    refine hK.out _ _ (HM.out.tail 0) (fun hHeld => ?_)
    clear hK K
    (try simp only [Act.put, List.setIfInBounds_toArray, List.set_cons_zero, List.set_cons_succ])
    refine wpAnyH_stronger (T := fun W' => Lows w [rdL A0 4 (littleL s 4), blkL w.heap.size 35 (MsgM.mk [s] bs).cells] W') (fun _ h' => (h'.tail 0)) _ _ _ _ ?_
    replace hHeld := HM.out
    refine step_one 0 rfl (by kernel_rfl) (fun K hK => ?_)
    clear hHeld
    go_simp
    have hm9 := HM.out.alloc 5 #[.int .u8 1, .int .u8 0, .int .u8 0, .int .u8 0] ((msHead 1).map u8v) rfl
    generalize wy2.alloc (.cells #[.int .u8 1, .int .u8 0, .int .u8 0, .int .u8 0] 5) = wy3 at hm9 ⊢
    generalize wy2.heap.size = g4 at hm9 ⊢
    replace HM := Lib.hid (show Lows w [rdL (some ⟨g4, 0, none⟩) 4 (msHead 1), rdL A0 4 (littleL s 4), blkL w.heap.size 35 (MsgM.mk [s] bs).cells] wy3 from (hm9.cons (rdL (some ⟨g4, 0, none⟩) 4 (msHead 1)) (blk_all (hm9.blk 0 rfl) rfl)).tail 1)
    clear hm9
    refine hK.out _ _ (HM.out.tail 0) (fun hHeld => ?_)
    clear hK K
    (try simp only [Act.put, List.setIfInBounds_toArray, List.set_cons_zero, List.set_cons_succ])
    refine wpAnyH_stronger (T := fun W' => Lows w [rdL (some ⟨g4, 0, none⟩) 4 (msHead 1), rdL A0 4 (littleL s 4), blkL w.heap.size 35 (MsgM.mk [s] bs).cells] W') (fun _ h' => (h'.tail 0)) _ _ _ _ ?_
    replace hHeld := HM.out
    refine step_one 14 rfl (by kernel_rfl) (fun K hK => ?_)
    clear hHeld
    go_simp
    have hm9 := HM.out.alloc 24 #[.slice (some ⟨g4, 0, none⟩) 4 4, .slice A0 4 c0, .slice (some ⟨w.heap.size, 1, none⟩) 32 32, .slice (some ⟨w.heap.size, 33, none⟩) 48 48, .slice (some ⟨w.heap.size, 81, none⟩) 28 28, .slice (some ⟨w.heap.size, 109, none⟩) 16 16, .slice (some ⟨w.heap.size, 125, none⟩) 16 16] ([.slice (some ⟨g4, 0, none⟩) 4 4, .slice A0 4 c0, .slice (some ⟨w.heap.size, 1, none⟩) 32 32, .slice (some ⟨w.heap.size, 33, none⟩) 48 48, .slice (some ⟨w.heap.size, 81, none⟩) 28 28, .slice (some ⟨w.heap.size, 109, none⟩) 16 16, .slice (some ⟨w.heap.size, 125, none⟩) 16 16]) rfl
    generalize wy3.alloc (.cells #[.slice (some ⟨g4, 0, none⟩) 4 4, .slice A0 4 c0, .slice (some ⟨w.heap.size, 1, none⟩) 32 32, .slice (some ⟨w.heap.size, 33, none⟩) 48 48, .slice (some ⟨w.heap.size, 81, none⟩) 28 28, .slice (some ⟨w.heap.size, 109, none⟩) 16 16, .slice (some ⟨w.heap.size, 125, none⟩) 16 16] 24) = wy4 at hm9 ⊢
    generalize wy3.heap.size = g7 at hm9 ⊢
    replace HM := Lib.hid (show Lows w [blkL g7 24 ([.slice (some ⟨g4, 0, none⟩) 4 4, .slice A0 4 c0, .slice (some ⟨w.heap.size, 1, none⟩) 32 32, .slice (some ⟨w.heap.size, 33, none⟩) 48 48, .slice (some ⟨w.heap.size, 81, none⟩) 28 28, .slice (some ⟨w.heap.size, 109, none⟩) 16 16, .slice (some ⟨w.heap.size, 125, none⟩) 16 16]), rdL (some ⟨g4, 0, none⟩) 4 (msHead 1), rdL A0 4 (littleL s 4), blkL w.heap.size 35 (MsgM.mk [s] bs).cells] wy4 from hm9)
    clear hm9
    refine hK.out _ _ (HM.out.tail 0) (fun hHeld => ?_)
    clear hK K
    (try simp only [Act.put, List.setIfInBounds_toArray, List.set_cons_zero, List.set_cons_succ])
    refine wpAnyH_stronger (T := fun W' => Lows w [blkL g7 24 ([.slice (some ⟨g4, 0, none⟩) 4 4, .slice A0 4 c0, .slice (some ⟨w.heap.size, 1, none⟩) 32 32, .slice (some ⟨w.heap.size, 33, none⟩) 48 48, .slice (some ⟨w.heap.size, 81, none⟩) 28 28, .slice (some ⟨w.heap.size, 109, none⟩) 16 16, .slice (some ⟨w.heap.size, 125, none⟩) 16 16]), rdL (some ⟨g4, 0, none⟩) 4 (msHead 1), rdL A0 4 (littleL s 4), blkL w.heap.size 35 (MsgM.mk [s] bs).cells] W') (fun _ h' => (h'.tail 0)) _ _ _ _ ?_
    replace hHeld := HM.out
    refine step_one 15 rfl (by kernel_rfl) (fun K hK => ?_)
    clear hHeld
    go_simp
    refine (refJoin_rows g7 24 [⟨(some ⟨g4, 0, none⟩), 4, 4, msHead 1⟩, ⟨A0, 4, c0, littleL s 4⟩, ⟨(some ⟨w.heap.size, 1, none⟩), 32, 32, (bs.drop 0).take 32⟩, ⟨(some ⟨w.heap.size, 33, none⟩), 48, 48, (bs.drop 32).take 48⟩, ⟨(some ⟨w.heap.size, 81, none⟩), 28, 28, (bs.drop 80).take 28⟩, ⟨(some ⟨w.heap.size, 109, none⟩), 16, 16, (bs.drop 108).take 16⟩, ⟨(some ⟨w.heap.size, 125, none⟩), 16, 16, (bs.drop 124).take 16⟩] 7 rfl (by omega) (encB 1 (MsgM.mk [s] bs)) HFL.out 148 HLEN.out (by omega) _ (HM.out.blk 0 rfl) (by
      intro p hp
      simp only [List.mem_cons, List.not_mem_nil, or_false] at hp
      rcases hp with rfl | rfl | rfl | rfl | rfl | rfl | rfl
      · exact HM.out.rd 1 rfl
      · exact HM.out.rd 2 rfl
      · exact msg_rd (HM.out.blk 3 rfl) HOK.out 1 0 32 rfl (by decide)
      · exact msg_rd (HM.out.blk 3 rfl) HOK.out 33 32 48 rfl (by decide)
      · exact msg_rd (HM.out.blk 3 rfl) HOK.out 81 80 28 rfl (by decide)
      · exact msg_rd (HM.out.blk 3 rfl) HOK.out 109 108 16 rfl (by decide)
      · exact msg_rd (HM.out.blk 3 rfl) HOK.out 125 124 16 rfl (by decide)
      )).mono ?_
    rintro e wy5 ⟨A9, c9, rfl, hc1, hc2, hr, hb⟩
    have HRES := Lib.hid (And.intro hc1 (And.intro hc2 (And.intro hr (HM.out.below hb).bel)))
    replace HM := Lib.hid (show Lows w [blkL g7 24 ([.slice (some ⟨g4, 0, none⟩) 4 4, .slice A0 4 c0, .slice (some ⟨w.heap.size, 1, none⟩) 32 32, .slice (some ⟨w.heap.size, 33, none⟩) 48 48, .slice (some ⟨w.heap.size, 81, none⟩) 28 28, .slice (some ⟨w.heap.size, 109, none⟩) 16 16, .slice (some ⟨w.heap.size, 125, none⟩) 16 16]), rdL (some ⟨g4, 0, none⟩) 4 (msHead 1), rdL A0 4 (littleL s 4), blkL w.heap.size 35 (MsgM.mk [s] bs).cells] wy5 from HM.out.below hb)
    clear hr hb hc1 hc2
    go_wp2_with fail
    refine hK.out _ _ (HM.out) (fun hHeld => ?_)
    clear hK K
    (try simp only [Act.put, List.setIfInBounds_toArray, List.set_cons_zero, List.set_cons_succ])
    refine take_first (v := ?_) 16 rfl (by kernel_rfl) (by kernel_rfl) (by kernel_rfl) (fun _ _ _ h => h) (Or.inl ⟨by rfl, ?_⟩) (by assumption) ?_
    rotate_left
    · (intro w hSw; (try dsimp only at hSw); go_simp; try with_reducible rfl)
    (try simp only [Act.put, List.setIfInBounds_toArray, List.set_cons_zero, List.set_cons_succ])
    refine wpAnyH_done (by kernel_rfl) ?_ _
    clear HM hHeld
    go_wp2_with fail
    go_ret
    exact ⟨A9, c9, rfl, HRES.out.1, HRES.out.2.1, HRES.out.2.2.1, HRES.out.2.2.2⟩

theorem refEnc2_parts (s r : Nat) (bs : List UInt8) (hb : bs.length = 80) : (msHead 2 ++ (littleL s 4 ++ (littleL r 4 ++ ((bs.drop 0).take 32 ++ ((bs.drop 32).take 16 ++ ((bs.drop 48).take 16 ++ ((bs.drop 64).take 16))))))) = encB 2 (MsgM.mk [s, r] bs) := by
  have e : (bs.drop 0).take 32 ++ ((bs.drop 32).take 16 ++ ((bs.drop 48).take 16 ++ ((bs.drop 64).take 16))) = bs := by
    apply List.ext_getElem
    · simp only [List.length_append, List.length_take, List.length_drop]; omega
    · intro i h1 h2
      simp only [List.getElem_append, List.getElem_take, List.getElem_drop, List.length_take, List.length_drop]
      repeat' split
      all_goals (congr 1; omega)
  rw [e]
  simp only [encB, numsB, List.flatMap_cons, List.flatMap_nil, List.append_nil, List.append_assoc]
set_option maxRecDepth 100000 in
set_option maxHeartbeats 8000000 in
theorem refEnc2 : MsEncC 35 2 := by
  intro m0 hok w
  obtain ⟨nums, bs⟩ := m0
  obtain ⟨s, r, hnum⟩ : ∃ s r, nums = [s, r] := by
    have h := hok.1
    match nums, h with
    | [s, r], _ => exact ⟨s, r, rfl⟩
  subst hnum
  have HOK := Lib.hid hok
  have HU0 := Lib.hid (refU32_any s (hok.2.2 s (by simp)))
  have HU1 := Lib.hid (refU32_any r (hok.2.2 r (by simp)))
  have HLEN := Lib.hid (show (encB 2 (MsgM.mk [s, r] bs)).length = 92 from encB_length hok)
  have hfl := refEnc2_parts s r bs hok.2.1
  obtain ⟨cm, hcm⟩ : ∃ z, (MsgM.mk [s, r] bs).cells.toArray = z := ⟨_, rfl⟩
  have HM := Lib.hid (show Lows w [blkL w.heap.size 37 (MsgM.mk [s, r] bs).cells] (w.alloc (.cells cm 37)) from (Lows.nil w).alloc 37 cm (MsgM.mk [s, r] bs).cells hcm.symm)
  rw [hcm]
  have HFL := Lib.hid (show ([(msHead 2 : List UInt8), (littleL s 4 : List UInt8), (littleL r 4 : List UInt8), ((bs.drop 0).take 32 : List UInt8), ((bs.drop 32).take 16 : List UInt8), ((bs.drop 48).take 16 : List UInt8), ((bs.drop 64).take 16 : List UInt8)] : List (List UInt8)).flatten = encB 2 (MsgM.mk [s, r] bs) from by
    rw [← hfl]; simp only [List.flatten_cons, List.flatten_nil, List.append_nil])
  clear hok hfl hcm
  go_enter Tryd.func35, Tryd.ntmps35
  go_upto_region 1 with fail
  generalize w.alloc (.cells cm 37) = w1 at HM ⊢
  refine wp_region_held_drew (S := fun W' => Lows w [blkL w.heap.size 37 (MsgM.mk [s, r] bs).cells] W') (by kernel_rfl) (HM.out.drew) (fun hHeld => ?_)
  replace HM := Lib.hid HM.out.drew
  generalize w1.drew = wd1 at HM hHeld ⊢
  refine take_first (v := ?_) 1 rfl (by kernel_rfl) (by kernel_rfl) (by kernel_rfl) (fun _ _ _ h => h) (Or.inl ⟨by rfl, ?_⟩) (by assumption) ?_
  rotate_left
  · (intro w hSw; (try dsimp only at hSw); go_simp; try with_reducible rfl)
  (try simp only [Act.put, List.setIfInBounds_toArray, List.set_cons_zero, List.set_cons_succ])
  refine take_first (v := ?_) 2 rfl (by kernel_rfl) (by kernel_rfl) (by kernel_rfl) (fun _ _ _ h => h) (Or.inl ⟨by rfl, ?_⟩) (by assumption) ?_
  rotate_left
  · (intro w hSw; (try dsimp only at hSw); have fl := msg_num (Lows.blk hSw 0 rfl) 0 s rfl; go_simp; try with_reducible rfl)
  (try simp only [Act.put, List.setIfInBounds_toArray, List.set_cons_zero, List.set_cons_succ])
  refine take_first (v := ?_) 4 rfl (by kernel_rfl) (by kernel_rfl) (by kernel_rfl) (fun _ _ _ h => h) (Or.inl ⟨by rfl, ?_⟩) (by assumption) ?_
  rotate_left
  · (intro w hSw; (try dsimp only at hSw); go_simp; try with_reducible rfl)
  (try simp only [Act.put, List.setIfInBounds_toArray, List.set_cons_zero, List.set_cons_succ])
  refine take_first (v := ?_) 5 rfl (by kernel_rfl) (by kernel_rfl) (by kernel_rfl) (fun _ _ _ h => h) (Or.inl ⟨by rfl, ?_⟩) (by assumption) ?_
  rotate_left
  · (intro w hSw; (try dsimp only at hSw); have fl := msg_num (Lows.blk hSw 0 rfl) 1 r rfl; go_simp; try with_reducible rfl)
  (try simp only [Act.put, List.setIfInBounds_toArray, List.set_cons_zero, List.set_cons_succ])
  refine take_first (v := ?_) 7 rfl (by kernel_rfl) (by kernel_rfl) (by kernel_rfl) (fun _ _ _ h => h) (Or.inl ⟨by rfl, ?_⟩) (by assumption) ?_
  rotate_left
  · (intro w hSw; (try dsimp only at hSw); go_simp; try with_reducible rfl)
  (try simp only [Act.put, List.setIfInBounds_toArray, List.set_cons_zero, List.set_cons_succ])
  refine take_first (v := ?_) 8 rfl (by kernel_rfl) (by kernel_rfl) (by kernel_rfl) (fun _ _ _ h => h) (Or.inl ⟨by rfl, ?_⟩) (by assumption) ?_
  rotate_left
  · (intro w hSw; (try dsimp only at hSw); go_simp; try with_reducible rfl)
  (try simp only [Act.put, List.setIfInBounds_toArray, List.set_cons_zero, List.set_cons_succ])
  refine take_first (v := ?_) 9 rfl (by kernel_rfl) (by kernel_rfl) (by kernel_rfl) (fun _ _ _ h => h) (Or.inl ⟨by rfl, ?_⟩) (by assumption) ?_
  rotate_left
  · (intro w hSw; (try dsimp only at hSw); go_simp; try with_reducible rfl)
  (try simp only [Act.put, List.setIfInBounds_toArray, List.set_cons_zero, List.set_cons_succ])
  refine take_first (v := ?_) 10 rfl (by kernel_rfl) (by kernel_rfl) (by kernel_rfl) (fun _ _ _ h => h) (Or.inl ⟨by rfl, ?_⟩) (by assumption) ?_
  rotate_left
  · (intro w hSw; (try dsimp only at hSw); go_simp; try with_reducible rfl)
  (try simp only [Act.put, List.setIfInBounds_toArray, List.set_cons_zero, List.set_cons_succ])
  refine take_first (v := ?_) 11 rfl (by kernel_rfl) (by kernel_rfl) (by kernel_rfl) (fun _ _ _ h => h) (Or.inl ⟨by rfl, ?_⟩) (by assumption) ?_
  rotate_left
  · (intro w hSw; (try dsimp only at hSw); go_simp; try with_reducible rfl)
  (try simp only [Act.put, List.setIfInBounds_toArray, List.set_cons_zero, List.set_cons_succ])
  refine take_first (v := ?_) 12 rfl (by kernel_rfl) (by kernel_rfl) (by kernel_rfl) (fun _ _ _ h => h) (Or.inl ⟨by rfl, ?_⟩) (by assumption) ?_
  rotate_left
  · (intro w hSw; (try dsimp only at hSw); go_simp; try with_reducible rfl)
  (try simp only [Act.put, List.setIfInBounds_toArray, List.set_cons_zero, List.set_cons_succ])
  refine take_first (v := ?_) 13 rfl (by kernel_rfl) (by kernel_rfl) (by kernel_rfl) (fun _ _ _ h => h) (Or.inl ⟨by rfl, ?_⟩) (by assumption) ?_
  rotate_left
  · (intro w hSw; (try dsimp only at hSw); go_simp; try with_reducible rfl)
  (try simp only [Act.put, List.setIfInBounds_toArray, List.set_cons_zero, List.set_cons_succ])
  refine take_first (v := ?_) 14 rfl (by kernel_rfl) (by kernel_rfl) (by kernel_rfl) (fun _ _ _ h => h) (Or.inl ⟨by rfl, ?_⟩) (by assumption) ?_
  rotate_left
  · (intro w hSw; (try dsimp only at hSw); go_simp; try with_reducible rfl)
  (try simp only [Act.put, List.setIfInBounds_toArray, List.set_cons_zero, List.set_cons_succ])
  refine step_two 0 3 rfl rfl (by kernel_rfl) (fun K hK => ?_) (fun K hK => ?_)
  · clear hHeld
    go_simp
    have hm9 := HM.out.alloc 5 #[.int .u8 2, .int .u8 0, .int .u8 0, .int .u8 0] ((msHead 2).map u8v) rfl
    generalize wd1.alloc (.cells #[.int .u8 2, .int .u8 0, .int .u8 0, .int .u8 0] 5) = wy2 at hm9 ⊢
    generalize wd1.heap.size = g4 at hm9 ⊢
    replace HM := Lib.hid (show Lows w [rdL (some ⟨g4, 0, none⟩) 4 (msHead 2), blkL w.heap.size 37 (MsgM.mk [s, r] bs).cells] wy2 from (hm9.cons (rdL (some ⟨g4, 0, none⟩) 4 (msHead 2)) (blk_all (hm9.blk 0 rfl) rfl)).tail 1)
    clear hm9
    refine hK.out _ _ (HM.out.tail 0) (fun hHeld => ?_)
    clear hK K
    (try simp only [Act.put, List.setIfInBounds_toArray, List.set_cons_zero, List.set_cons_succ])
    refine wpAnyH_stronger (T := fun W' => Lows w [rdL (some ⟨g4, 0, none⟩) 4 (msHead 2), blkL w.heap.size 37 (MsgM.mk [s, r] bs).cells] W') (fun _ h' => (h'.tail 0)) _ _ _ _ ?_
    replace hHeld := HM.out
    refine step_one 3 rfl (by kernel_rfl) (fun K hK => ?_)
    clear hHeld
    go_simp
    refine (HU0.out _).mono ?_
    rintro e wy3 ⟨A0, c0, rfl, hr, hb⟩
    replace HM := Lib.hid (show Lows w [rdL A0 4 (littleL s 4), rdL (some ⟨g4, 0, none⟩) 4 (msHead 2), blkL w.heap.size 37 (MsgM.mk [s, r] bs).cells] wy3 from (HM.out.below hb).cons (rdL A0 4 (littleL s 4)) (hr))
    clear hb
    go_wp2_with fail
    refine hK.out _ _ (HM.out.tail 0) (fun hHeld => ?_)
    clear hK K
    (try simp only [Act.put, List.setIfInBounds_toArray, List.set_cons_zero, List.set_cons_succ])
    refine wpAnyH_stronger (T := fun W' => Lows w [rdL A0 4 (littleL s 4), rdL (some ⟨g4, 0, none⟩) 4 (msHead 2), blkL w.heap.size 37 (MsgM.mk [s, r] bs).cells] W') (fun _ h' => (h'.tail 0)) _ _ _ _ ?_
    replace hHeld := HM.out
    refine step_one 6 rfl (by kernel_rfl) (fun K hK => ?_)
    clear hHeld
    go_simp
    refine (HU1.out _).mono ?_
    rintro e wy4 ⟨A1, c1, rfl, hr, hb⟩
    replace HM := Lib.hid (show Lows w [rdL A1 4 (littleL r 4), rdL A0 4 (littleL s 4), rdL (some ⟨g4, 0, none⟩) 4 (msHead 2), blkL w.heap.size 37 (MsgM.mk [s, r] bs).cells] wy4 from (HM.out.below hb).cons (rdL A1 4 (littleL r 4)) (hr))
    clear hb
    go_wp2_with fail
    refine hK.out _ _ (HM.out.tail 0) (fun hHeld => ?_)
    clear hK K
    (try simp only [Act.put, List.setIfInBounds_toArray, List.set_cons_zero, List.set_cons_succ])
    refine wpAnyH_stronger (T := fun W' => Lows w [rdL A1 4 (littleL r 4), rdL A0 4 (littleL s 4), rdL (some ⟨g4, 0, none⟩) 4 (msHead 2), blkL w.heap.size 37 (MsgM.mk [s, r] bs).cells] W') (fun _ h' => (h'.tail 0)) _ _ _ _ ?_
    replace hHeld := HM.out
    refine step_one 15 rfl (by kernel_rfl) (fun K hK => ?_)
    clear hHeld
    go_simp
    have hm9 := HM.out.alloc 24 #[.slice (some ⟨g4, 0, none⟩) 4 4, .slice A0 4 c0, .slice A1 4 c1, .slice (some ⟨w.heap.size, 2, none⟩) 32 32, .slice (some ⟨w.heap.size, 34, none⟩) 16 16, .slice (some ⟨w.heap.size, 50, none⟩) 16 16, .slice (some ⟨w.heap.size, 66, none⟩) 16 16] ([.slice (some ⟨g4, 0, none⟩) 4 4, .slice A0 4 c0, .slice A1 4 c1, .slice (some ⟨w.heap.size, 2, none⟩) 32 32, .slice (some ⟨w.heap.size, 34, none⟩) 16 16, .slice (some ⟨w.heap.size, 50, none⟩) 16 16, .slice (some ⟨w.heap.size, 66, none⟩) 16 16]) rfl
    generalize wy4.alloc (.cells #[.slice (some ⟨g4, 0, none⟩) 4 4, .slice A0 4 c0, .slice A1 4 c1, .slice (some ⟨w.heap.size, 2, none⟩) 32 32, .slice (some ⟨w.heap.size, 34, none⟩) 16 16, .slice (some ⟨w.heap.size, 50, none⟩) 16 16, .slice (some ⟨w.heap.size, 66, none⟩) 16 16] 24) = wy5 at hm9 ⊢
    generalize wy4.heap.size = g7 at hm9 ⊢
    replace HM := Lib.hid (show Lows w [blkL g7 24 ([.slice (some ⟨g4, 0, none⟩) 4 4, .slice A0 4 c0, .slice A1 4 c1, .slice (some ⟨w.heap.size, 2, none⟩) 32 32, .slice (some ⟨w.heap.size, 34, none⟩) 16 16, .slice (some ⟨w.heap.size, 50, none⟩) 16 16, .slice (some ⟨w.heap.size, 66, none⟩) 16 16]), rdL A1 4 (littleL r 4), rdL A0 4 (littleL s 4), rdL (some ⟨g4, 0, none⟩) 4 (msHead 2), blkL w.heap.size 37 (MsgM.mk [s, r] bs).cells] wy5 from hm9)
    clear hm9
    refine hK.out _ _ (HM.out.tail 0) (fun hHeld => ?_)
    clear hK K
    (try simp only [Act.put, List.setIfInBounds_toArray, List.set_cons_zero, List.set_cons_succ])
    refine wpAnyH_stronger (T := fun W' => Lows w [blkL g7 24 ([.slice (some ⟨g4, 0, none⟩) 4 4, .slice A0 4 c0, .slice A1 4 c1, .slice (some ⟨w.heap.size, 2, none⟩) 32 32, .slice (some ⟨w.heap.size, 34, none⟩) 16 16, .slice (some ⟨w.heap.size, 50, none⟩) 16 16, .slice (some ⟨w.heap.size, 66, none⟩) 16 16]), rdL A1 4 (littleL r 4), rdL A0 4 (littleL s 4), rdL (some ⟨g4, 0, none⟩) 4 (msHead 2), blkL w.heap.size 37 (MsgM.mk [s, r] bs).cells] W') (fun _ h' => (h'.tail 0)) _ _ _ _ ?_
    replace hHeld := HM.out
    refine step_one 16 rfl (by kernel_rfl) (fun K hK => ?_)
    clear hHeld
    go_simp
    refine (refJoin_rows g7 24 [⟨(some ⟨g4, 0, none⟩), 4, 4, msHead 2⟩, ⟨A0, 4, c0, littleL s 4⟩, ⟨A1, 4, c1, littleL r 4⟩, ⟨(some ⟨w.heap.size, 2, none⟩), 32, 32, (bs.drop 0).take 32⟩, ⟨(some ⟨w.heap.size, 34, none⟩), 16, 16, (bs.drop 32).take 16⟩, ⟨(some ⟨w.heap.size, 50, none⟩), 16, 16, (bs.drop 48).take 16⟩, ⟨(some ⟨w.heap.size, 66, none⟩), 16, 16, (bs.drop 64).take 16⟩] 7 rfl (by omega) (encB 2 (MsgM.mk [s, r] bs)) HFL.out 92 HLEN.out (by omega) _ (HM.out.blk 0 rfl) (by
      intro p hp
      simp only [List.mem_cons, List.not_mem_nil, or_false] at hp
      rcases hp with rfl | rfl | rfl | rfl | rfl | rfl | rfl
      · exact HM.out.rd 3 rfl
      · exact HM.out.rd 2 rfl
      · exact HM.out.rd 1 rfl
      · exact msg_rd (HM.out.blk 4 rfl) HOK.out 2 0 32 rfl (by decide)
      · exact msg_rd (HM.out.blk 4 rfl) HOK.out 34 32 16 rfl (by decide)
      · exact msg_rd (HM.out.blk 4 rfl) HOK.out 50 48 16 rfl (by decide)
      · exact msg_rd (HM.out.blk 4 rfl) HOK.out 66 64 16 rfl (by decide)
      )).mono ?_
    rintro e wy6 ⟨A9, c9, rfl, hc1, hc2, hr, hb⟩
    have HRES := Lib.hid (And.intro hc1 (And.intro hc2 (And.intro hr (HM.out.below hb).bel)))
    replace HM := Lib.hid (show Lows w [blkL g7 24 ([.slice (some ⟨g4, 0, none⟩) 4 4, .slice A0 4 c0, .slice A1 4 c1, .slice (some ⟨w.heap.size, 2, none⟩) 32 32, .slice (some ⟨w.heap.size, 34, none⟩) 16 16, .slice (some ⟨w.heap.size, 50, none⟩) 16 16, .slice (some ⟨w.heap.size, 66, none⟩) 16 16]), rdL A1 4 (littleL r 4), rdL A0 4 (littleL s 4), rdL (some ⟨g4, 0, none⟩) 4 (msHead 2), blkL w.heap.size 37 (MsgM.mk [s, r] bs).cells] wy6 from HM.out.below hb)
    clear hr hb hc1 hc2
    go_wp2_with fail
    refine hK.out _ _ (HM.out) (fun hHeld => ?_)
    clear hK K
    (try simp only [Act.put, List.setIfInBounds_toArray, List.set_cons_zero, List.set_cons_succ])
    refine take_first (v := ?_) 17 rfl (by kernel_rfl) (by kernel_rfl) (by kernel_rfl) (fun _ _ _ h => h) (Or.inl ⟨by rfl, ?_⟩) (by assumption) ?_
    rotate_left
    · (intro w hSw; (try dsimp only at hSw); go_simp; try with_reducible rfl)
    (try simp only [Act.put, List.setIfInBounds_toArray, List.set_cons_zero, List.set_cons_succ])
    refine wpAnyH_done (by kernel_rfl) ?_ _
    clear HM hHeld
    go_wp2_with fail
    go_ret
    exact ⟨A9, c9, rfl, HRES.out.1, HRES.out.2.1, HRES.out.2.2.1, HRES.out.2.2.2⟩
  · clear hHeld
    go_simp
    refine (HU0.out _).mono ?_
    rintro e wy2 ⟨A0, c0, rfl, hr, hb⟩
    replace HM := Lib.hid (show Lows w [rdL A0 4 (littleL s 4), blkL w.heap.size 37 (MsgM.mk [s, r] bs).cells] wy2 from (HM.out.below hb).cons (rdL A0 4 (littleL s 4)) (hr))
    clear hb
    go_wp2_with fail
    refine hK.out _ _ (HM.out.tail 0) (fun hHeld => ?_)
    clear hK K
    (try simp only [Act.put, List.setIfInBounds_toArray, List.set_cons_zero, List.set_cons_succ])
    refine wpAnyH_stronger (T := fun W' => Lows w [rdL A0 4 (littleL s 4), blkL w.heap.size 37 (MsgM.mk [s, r] bs).cells] W') (fun _ h' => (h'.tail 0)) _ _ _ _ ?_
    replace hHeld := HM.out
    refine step_two 0 6 rfl rfl (by kernel_rfl) (fun K hK => ?_) (fun K hK => ?_)
    · clear hHeld
      go_simp
      have hm9 := HM.out.alloc 5 #[.int .u8 2, .int .u8 0, .int .u8 0, .int .u8 0] ((msHead 2).map u8v) rfl
      generalize wy2.alloc (.cells #[.int .u8 2, .int .u8 0, .int .u8 0, .int .u8 0] 5) = wy3 at hm9 ⊢
      generalize wy2.heap.size = g4 at hm9 ⊢
      replace HM := Lib.hid (show Lows w [rdL (some ⟨g4, 0, none⟩) 4 (msHead 2), rdL A0 4 (littleL s 4), blkL w.heap.size 37 (MsgM.mk [s, r] bs).cells] wy3 from (hm9.cons (rdL (some ⟨g4, 0, none⟩) 4 (msHead 2)) (blk_all (hm9.blk 0 rfl) rfl)).tail 1)
      clear hm9
      refine hK.out _ _ (HM.out.tail 0) (fun hHeld => ?_)
      clear hK K
      (try simp only [Act.put, List.setIfInBounds_toArray, List.set_cons_zero, List.set_cons_succ])
      refine wpAnyH_stronger (T := fun W' => Lows w [rdL (some ⟨g4, 0, none⟩) 4 (msHead 2), rdL A0 4 (littleL s 4), blkL w.heap.size 37 (MsgM.mk [s, r] bs).cells] W') (fun _ h' => (h'.tail 0)) _ _ _ _ ?_
      replace hHeld := HM.out
      refine step_one 6 rfl (by kernel_rfl) (fun K hK => ?_)
      clear hHeld
      go_simp
      refine (HU1.out _).mono ?_
      rintro e wy4 ⟨A1, c1, rfl, hr, hb⟩
      replace HM := Lib.hid (show Lows w [rdL A1 4 (littleL r 4), rdL (some ⟨g4, 0, none⟩) 4 (msHead 2), rdL A0 4 (littleL s 4), blkL w.heap.size 37 (MsgM.mk [s, r] bs).cells] wy4 from (HM.out.below hb).cons (rdL A1 4 (littleL r 4)) (hr))
      clear hb
      go_wp2_with fail
      refine hK.out _ _ (HM.out.tail 0) (fun hHeld => ?_)
      clear hK K
      (try simp only [Act.put, List.setIfInBounds_toArray, List.set_cons_zero, List.set_cons_succ])
      refine wpAnyH_stronger (T := fun W' => Lows w [rdL A1 4 (littleL r 4), rdL (some ⟨g4, 0, none⟩) 4 (msHead 2), rdL A0 4 (littleL s 4), blkL w.heap.size 37 (MsgM.mk [s, r] bs).cells] W') (fun _ h' => (h'.tail 0)) _ _ _ _ ?_
      replace hHeld := HM.out
      refine step_one 15 rfl (by kernel_rfl) (fun K hK => ?_)
      clear hHeld
      go_simp
      have hm9 := HM.out.alloc 24 #[.slice (some ⟨g4, 0, none⟩) 4 4, .slice A0 4 c0, .slice A1 4 c1, .slice (some ⟨w.heap.size, 2, none⟩) 32 32, .slice (some ⟨w.heap.size, 34, none⟩) 16 16, .slice (some ⟨w.heap.size, 50, none⟩) 16 16, .slice (some ⟨w.heap.size, 66, none⟩) 16 16] ([.slice (some ⟨g4, 0, none⟩) 4 4, .slice A0 4 c0, .slice A1 4 c1, .slice (some ⟨w.heap.size, 2, none⟩) 32 32, .slice (some ⟨w.heap.size, 34, none⟩) 16 16, .slice (some ⟨w.heap.size, 50, none⟩) 16 16, .slice (some ⟨w.heap.size, 66, none⟩) 16 16]) rfl
      generalize wy4.alloc (.cells #[.slice (some ⟨g4, 0, none⟩) 4 4, .slice A0 4 c0, .slice A1 4 c1, .slice (some ⟨w.heap.size, 2, none⟩) 32 32, .slice (some ⟨w.heap.size, 34, none⟩) 16 16, .slice (some ⟨w.heap.size, 50, none⟩) 16 16, .slice (some ⟨w.heap.size, 66, none⟩) 16 16] 24) = wy5 at hm9 ⊢
      generalize wy4.heap.size = g7 at hm9 ⊢
      replace HM := Lib.hid (show Lows w [blkL g7 24 ([.slice (some ⟨g4, 0, none⟩) 4 4, .slice A0 4 c0, .slice A1 4 c1, .slice (some ⟨w.heap.size, 2, none⟩) 32 32, .slice (some ⟨w.heap.size, 34, none⟩) 16 16, .slice (some ⟨w.heap.size, 50, none⟩) 16 16, .slice (some ⟨w.heap.size, 66, none⟩) 16 16]), rdL A1 4 (littleL r 4), rdL (some ⟨g4, 0, none⟩) 4 (msHead 2), rdL A0 4 (littleL s 4), blkL w.heap.size 37 (MsgM.mk [s, r] bs).cells] wy5 from hm9)
      clear hm9
      refine hK.out _ _ (HM.out.tail 0) (fun hHeld => ?_)
      clear hK K
      (try simp only [Act.put, List.setIfInBounds_toArray, List.set_cons_zero, List.set_cons_succ])
      refine wpAnyH_stronger (T := fun W' => Lows w [blkL g7 24 ([.slice (some ⟨g4, 0, none⟩) 4 4, .slice A0 4 c0, .slice A1 4 c1, .slice (some ⟨w.heap.size, 2, none⟩) 32 32, .slice (some ⟨w.heap.size, 34, none⟩) 16 16, .slice (some ⟨w.heap.size, 50, none⟩) 16 16, .slice (some ⟨w.heap.size, 66, none⟩) 16 16]), rdL A1 4 (littleL r 4), rdL (some ⟨g4, 0, none⟩) 4 (msHead 2), rdL A0 4 (littleL s 4), blkL w.heap.size 37 (MsgM.mk [s, r] bs).cells] W') (fun _ h' => (h'.tail 0)) _ _ _ _ ?_
      replace hHeld := HM.out
      refine step_one 16 rfl (by kernel_rfl) (fun K hK => ?_)
      clear hHeld
      go_simp
      refine (refJoin_rows g7 24 [⟨(some ⟨g4, 0, none⟩), 4, 4, msHead 2⟩, ⟨A0, 4, c0, littleL s 4⟩, ⟨A1, 4, c1, littleL r 4⟩, ⟨(some ⟨w.heap.size, 2, none⟩), 32, 32, (bs.drop 0).take 32⟩, ⟨(some ⟨w.heap.size, 34, none⟩), 16, 16, (bs.drop 32).take 16⟩, ⟨(some ⟨w.heap.size, 50, none⟩), 16, 16, (bs.drop 48).take 16⟩, ⟨(some ⟨w.heap.size, 66, none⟩), 16, 16, (bs.drop 64).take 16⟩] 7 rfl (by omega) (encB 2 (MsgM.mk [s, r] bs)) HFL.out 92 HLEN.out (by omega) _ (HM.out.blk 0 rfl) (by
        intro p hp
        simp only [List.mem_cons, List.not_mem_nil, or_false] at hp
        rcases hp with rfl | rfl | rfl | rfl | rfl | rfl | rfl
        · exact HM.out.rd 2 rfl
        · exact HM.out.rd 3 rfl
        · exact HM.out.rd 1 rfl
        · exact msg_rd (HM.out.blk 4 rfl) HOK.out 2 0 32 rfl (by decide)
        · exact msg_rd (HM.out.blk 4 rfl) HOK.out 34 32 16 rfl (by decide)
        · exact msg_rd (HM.out.blk 4 rfl) HOK.out 50 48 16 rfl (by decide)
        · exact msg_rd (HM.out.blk 4 rfl) HOK.out 66 64 16 rfl (by decide)
        )).mono ?_
      rintro e wy6 ⟨A9, c9, rfl, hc1, hc2, hr, hb⟩
      have HRES := Lib.hid (And.intro hc1 (And.intro hc2 (And.intro hr (HM.out.below hb).bel)))
      replace HM := Lib.hid (show Lows w [blkL g7 24 ([.slice (some ⟨g4, 0, none⟩) 4 4, .slice A0 4 c0, .slice A1 4 c1, .slice (some ⟨w.heap.size, 2, none⟩) 32 32, .slice (some ⟨w.heap.size, 34, none⟩) 16 16, .slice (some ⟨w.heap.size, 50, none⟩) 16 16, .slice (some ⟨w.heap.size, 66, none⟩) 16 16]), rdL A1 4 (littleL r 4), rdL (some ⟨g4, 0, none⟩) 4 (msHead 2), rdL A0 4 (littleL s 4), blkL w.heap.size 37 (MsgM.mk [s, r] bs).cells] wy6 from HM.out.below hb)
      clear hr hb hc1 hc2
      go_wp2_with fail
      refine hK.out _ _ (HM.out) (fun hHeld => ?_)
      clear hK K
      (try simp only [Act.put, List.setIfInBounds_toArray, List.set_cons_zero, List.set_cons_succ])
      refine take_first (v := ?_) 17 rfl (by kernel_rfl) (by kernel_rfl) (by kernel_rfl) (fun _ _ _ h => h) (Or.inl ⟨by rfl, ?_⟩) (by assumption) ?_
      rotate_left
      · (intro w hSw; (try dsimp only at hSw); go_simp; try with_reducible rfl)
      (try simp only [Act.put, List.setIfInBounds_toArray, List.set_cons_zero, List.set_cons_succ])
      refine wpAnyH_done (by kernel_rfl) ?_ _
      clear HM hHeld
      go_wp2_with fail
      go_ret
      exact ⟨A9, c9, rfl, HRES.out.1, HRES.out.2.1, HRES.out.2.2.1, HRES.out.2.2.2⟩
    · clear hHeld
      go_simp
      refine (HU1.out _).mono ?_
      rintro e wy3 ⟨A1, c1, rfl, hr, hb⟩
      replace HM := Lib.hid (show Lows w [rdL A1 4 (littleL r 4), rdL A0 4 (littleL s 4), blkL w.heap.size 37 (MsgM.mk [s, r] bs).cells] wy3 from (HM.out.below hb).cons (rdL A1 4 (littleL r 4)) (hr))
      clear hb
      go_wp2_with fail
      refine hK.out _ _ (HM.out.tail 0) (fun hHeld => ?_)
      clear hK K
      (try simp only [Act.put, List.setIfInBounds_toArray, List.set_cons_zero, List.set_cons_succ])
      refine wpAnyH_stronger (T := fun W' => Lows w [rdL A1 4 (littleL r 4), rdL A0 4 (littleL s 4), blkL w.heap.size 37 (MsgM.mk [s, r] bs).cells] W') (fun _ h' => (h'.tail 0)) _ _ _ _ ?_
      replace hHeld := HM.out
      refine step_one 0 rfl (by kernel_rfl) (fun K hK => ?_)
      clear hHeld
      go_simp
      have hm9 := HM.out.alloc 5 #[.int .u8 2, .int .u8 0, .int .u8 0, .int .u8 0] ((msHead 2).map u8v) rfl
      generalize wy3.alloc (.cells #[.int .u8 2, .int .u8 0, .int .u8 0, .int .u8 0] 5) = wy4 at hm9 ⊢
      generalize wy3.heap.size = g4 at hm9 ⊢
      replace HM := Lib.hid (show Lows w [rdL (some ⟨g4, 0, none⟩) 4 (msHead 2), rdL A1 4 (littleL r 4), rdL A0 4 (littleL s 4), blkL w.heap.size 37 (MsgM.mk [s, r] bs).cells] wy4 from (hm9.cons (rdL (some ⟨g4, 0, none⟩) 4 (msHead 2)) (blk_all (hm9.blk 0 rfl) rfl)).tail 1)
      clear hm9
      refine hK.out _ _ (HM.out.tail 0) (fun hHeld => ?_)
      clear hK K
      (try simp only [Act.put, List.setIfInBounds_toArray, List.set_cons_zero, List.set_cons_succ])
      refine wpAnyH_stronger (T := fun W' => Lows w [rdL (some ⟨g4, 0, none⟩) 4 (msHead 2), rdL A1 4 (littleL r 4), rdL A0 4 (littleL s 4), blkL w.heap.size 37 (MsgM.mk [s, r] bs).cells] W') (fun _ h' => (h'.tail 0)) _ _ _ _ ?_
      replace hHeld := HM.out
      refine step_one 15 rfl (by kernel_rfl) (fun K hK => ?_)
      clear hHeld
      go_simp
      have hm9 := HM.out.alloc 24 #[.slice (some ⟨g4, 0, none⟩) 4 4, .slice A0 4 c0, .slice A1 4 c1, .slice (some ⟨w.heap.size, 2, none⟩) 32 32, .slice (some ⟨w.heap.size, 34, none⟩) 16 16, .slice (some ⟨w.heap.size, 50, none⟩) 16 16, .slice (some ⟨w.heap.size, 66, none⟩) 16 16] ([.slice (some ⟨g4, 0, none⟩) 4 4, .slice A0 4 c0, .slice A1 4 c1, .slice (some ⟨w.heap.size, 2, none⟩) 32 32, .slice (some ⟨w.heap.size, 34, none⟩) 16 16, .slice (some ⟨w.heap.size, 50, none⟩) 16 16, .slice (some ⟨w.heap.size, 66, none⟩) 16 16]) rfl
      generalize wy4.alloc (.cells #[.slice (some ⟨g4, 0, none⟩) 4 4, .slice A0 4 c0, .slice A1 4 c1, .slice (some ⟨w.heap.size, 2, none⟩) 32 32, .slice (some ⟨w.heap.size, 34, none⟩) 16 16, .slice (some ⟨w.heap.size, 50, none⟩) 16 16, .slice (some ⟨w.heap.size, 66, none⟩) 16 16] 24) = wy5 at hm9 ⊢
      generalize wy4.heap.size = g7 at hm9 ⊢
      replace HM := Lib.hid (show Lows w [blkL g7 24 ([.slice (some ⟨g4, 0, none⟩) 4 4, .slice A0 4 c0, .slice A1 4 c1, .slice (some ⟨w.heap.size, 2, none⟩) 32 32, .slice (some ⟨w.heap.size, 34, none⟩) 16 16, .slice (some ⟨w.heap.size, 50, none⟩) 16 16, .slice (some ⟨w.heap.size, 66, none⟩) 16 16]), rdL (some ⟨g4, 0, none⟩) 4 (msHead 2), rdL A1 4 (littleL r 4), rdL A0 4 (littleL s 4), blkL w.heap.size 37 (MsgM.mk [s, r] bs).cells] wy5 from hm9)
      clear hm9
      refine hK.out _ _ (HM.out.tail 0) (fun hHeld => ?_)
      clear hK K
      (try simp only [Act.put, List.setIfInBounds_toArray, List.set_cons_zero, List.set_cons_succ])
      refine wpAnyH_stronger (T := fun W' => Lows w [blkL g7 24 ([.slice (some ⟨g4, 0, none⟩) 4 4, .slice A0 4 c0, .slice A1 4 c1, .slice (some ⟨w.heap.size, 2, none⟩) 32 32, .slice (some ⟨w.heap.size, 34, none⟩) 16 16, .slice (some ⟨w.heap.size, 50, none⟩) 16 16, .slice (some ⟨w.heap.size, 66, none⟩) 16 16]), rdL (some ⟨g4, 0, none⟩) 4 (msHead 2), rdL A1 4 (littleL r 4), rdL A0 4 (littleL s 4), blkL w.heap.size 37 (MsgM.mk [s, r] bs).cells] W') (fun _ h' => (h'.tail 0)) _ _ _ _ ?_
      replace hHeld := HM.out
      refine step_one 16 rfl (by kernel_rfl) (fun K hK => ?_)
      clear hHeld
      go_simp
      refine (refJoin_rows g7 24 [⟨(some ⟨g4, 0, none⟩), 4, 4, msHead 2⟩, ⟨A0, 4, c0, littleL s 4⟩, ⟨A1, 4, c1, littleL r 4⟩, ⟨(some ⟨w.heap.size, 2, none⟩), 32, 32, (bs.drop 0).take 32⟩, ⟨(some ⟨w.heap.size, 34, none⟩), 16, 16, (bs.drop 32).take 16⟩, ⟨(some ⟨w.heap.size, 50, none⟩), 16, 16, (bs.drop 48).take 16⟩, ⟨(some ⟨w.heap.size, 66, none⟩), 16, 16, (bs.drop 64).take 16⟩] 7 rfl (by omega) (encB 2 (MsgM.mk [s, r] bs)) HFL.out 92 HLEN.out (by omega) _ (HM.out.blk 0 rfl) (by
        intro p hp
        simp only [List.mem_cons, List.not_mem_nil, or_false] at hp
        rcases hp with rfl | rfl | rfl | rfl | rfl | rfl | rfl
        · exact HM.out.rd 1 rfl
        · exact HM.out.rd 3 rfl
        · exact HM.out.rd 2 rfl
        · exact msg_rd (HM.out.blk 4 rfl) HOK.out 2 0 32 rfl (by decide)
        · exact msg_rd (HM.out.blk 4 rfl) HOK.out 34 32 16 rfl (by decide)
        · exact msg_rd (HM.out.blk 4 rfl) HOK.out 50 48 16 rfl (by decide)
        · exact msg_rd (HM.out.blk 4 rfl) HOK.out 66 64 16 rfl (by decide)
        )).mono ?_
      rintro e wy6 ⟨A9, c9, rfl, hc1, hc2, hr, hb⟩
      have HRES := Lib.hid (And.intro hc1 (And.intro hc2 (And.intro hr (HM.out.below hb).bel)))
      replace HM := Lib.hid (show Lows w [blkL g7 24 ([.slice (some ⟨g4, 0, none⟩) 4 4, .slice A0 4 c0, .slice A1 4 c1, .slice (some ⟨w.heap.size, 2, none⟩) 32 32, .slice (some ⟨w.heap.size, 34, none⟩) 16 16, .slice (some ⟨w.heap.size, 50, none⟩) 16 16, .slice (some ⟨w.heap.size, 66, none⟩) 16 16]), rdL (some ⟨g4, 0, none⟩) 4 (msHead 2), rdL A1 4 (littleL r 4), rdL A0 4 (littleL s 4), blkL w.heap.size 37 (MsgM.mk [s, r] bs).cells] wy6 from HM.out.below hb)
      clear hr hb hc1 hc2
      go_wp2_with fail
      refine hK.out _ _ (HM.out) (fun hHeld => ?_)
      clear hK K
      (try simp only [Act.put, List.setIfInBounds_toArray, List.set_cons_zero, List.set_cons_succ])
      refine take_first (v := ?_) 17 rfl (by kernel_rfl) (by kernel_rfl) (by kernel_rfl) (fun _ _ _ h => h) (Or.inl ⟨by rfl, ?_⟩) (by assumption) ?_
      rotate_left
      · (intro w hSw; (try dsimp only at hSw); go_simp; try with_reducible rfl)
      (try simp only [Act.put, List.setIfInBounds_toArray, List.set_cons_zero, List.set_cons_succ])
      refine wpAnyH_done (by kernel_rfl) ?_ _
      clear HM hHeld
      go_wp2_with fail
      go_ret
      exact ⟨A9, c9, rfl, HRES.out.1, HRES.out.2.1, HRES.out.2.2.1, HRES.out.2.2.2⟩

end Go.Proofs.YtlddafkikkaonaaDoor
namespace Go.Proofs.YtlddafkikkaonaaDoor
open Go.RowKit

theorem RdIn.from_ {lo lo' hi : Nat} {A : Option Addr} {n : Nat} {l : List UInt8} {W : World} (h : RdIn lo hi A n l W) (hl : lo' ≤ lo) : RdIn lo' hi A n l W :=
  ⟨h.1, fun hn => by
    obtain ⟨b, off, e, h1, h2, hc⟩ := h.2 hn
    exact ⟨b, off, e, Nat.le_trans hl h1, h2, hc⟩⟩
theorem RdIn.of_own {w : World} {base n c : Nat} {A : Option Addr} {l : List UInt8} (ho : w.ownsRow base 5 1 (.slice A n c) n (l.map u8v)) : RdIn base w.heap.size A n l w := by
  have hr := Rd.of_own ho
  refine ⟨hr.1, fun hn => ?_⟩
  obtain ⟨b, off, e, h1, hc⟩ := hr.2 hn
  subst e
  exact ⟨b, off, rfl, (ho.lt b rfl).1, h1, hc⟩
end Go.Proofs.YtlddafkikkaonaaDoor
