/-
  The contract of the reference's Code. No statement is proved here.
-/
import Derived.Test.YtellicmnopfkgaaDoorBlHash
import Derived.Test.YtellicmnopfkgaaDoorBlCc
namespace Go.Proofs.YtellicmnopfkgaaDoor
open Go.RowKit

/-- a copy of no bytes -/
theorem wpList_copy_none {P : Program} (w : World) {ops : Array Oper} {rest : List Oper} {o : Oper} {a : Act} {Q : Exit → Act → World → Prop} (hgd : o.guard = none) (d s : Operand) (dT sT : TypeId)
    (ho : o.op = .call { callee := .builtin .copy, args := #[d, s], argTypes := #[dT, sT] }) (elem : TypeId) (hu : P.underlying dT = some (.slice elem)) (hsz : (P.info? elem).map (·.size) = some 1)
    (D A : Option Addr) (dLen dCap sLen sCap : Nat) (hd : a.eval d = .slice D dLen dCap) (hs : a.eval s = .slice A sLen sCap) (hn : Nat.min sLen dLen = 0)
    (h : wpList P ops Q rest (a.put o.dst (goInt 0)) w) : wpList P ops Q (o :: rest) a w := by
  refine wpList_plain hgd fun K hK => ?_
  have hrun := run_copy_none (P := P) w dT sT o.type elem D A dLen dCap sLen sCap hu hsz hn
  unfold Oper.wp execOp
  simp only [ho, resolve, invoke, builtin, Sem.run_bind, Sem.run_pure, Result.andThen_ok, List.map_toArray, List.map_cons, List.map_nil, hs, hd, hrun]
  exact hK _ _ h
set_option maxRecDepth 100000 in
set_option maxHeartbeats 4000000 in
theorem refCode_any (Ak : Option Addr) (nk ck : Nat) (key : List UInt8) (c : Nat) (A : Option Addr) (ps : List Part) (hm : ps.length ≤ 1000) (ht : (flat ps ps.length).length ≤ 400000) (w : World) (hrk : Rd w w.heap.size Ak nk key) (hp : PartsRd w w.heap.size A ps) :
    Calls Tryd.prog 15 #[.slice Ak nk ck, .slice A ps.length c] w fun e w' => e = .returned (.agg ((codeB key (flat ps ps.length)).map u8v).toArray) ∧ Below w.heap.size w w' := by
  have HK := Lib.hid hrk
  have HM := Lib.hid (show Mem w [blkE w.heap.size 36 (aeZ 16)] (w.alloc (.cells #[.int .u8 0, .int .u8 0, .int .u8 0, .int .u8 0, .int .u8 0, .int .u8 0, .int .u8 0, .int .u8 0, .int .u8 0, .int .u8 0, .int .u8 0, .int .u8 0, .int .u8 0, .int .u8 0, .int .u8 0, .int .u8 0] 36)) from (Mem.nil w).alloc rfl 36 #[.int .u8 0, .int .u8 0, .int .u8 0, .int .u8 0, .int .u8 0, .int .u8 0, .int .u8 0, .int .u8 0, .int .u8 0, .int .u8 0, .int .u8 0, .int .u8 0, .int .u8 0, .int .u8 0, .int .u8 0, .int .u8 0] (aeZ 16) rfl)
  have hp1 : PartsRd (w.alloc (.cells #[.int .u8 0, .int .u8 0, .int .u8 0, .int .u8 0, .int .u8 0, .int .u8 0, .int .u8 0, .int .u8 0, .int .u8 0, .int .u8 0, .int .u8 0, .int .u8 0, .int .u8 0, .int .u8 0, .int .u8 0, .int .u8 0] 36)) w.heap.size A ps := fun h0 => by
    obtain ⟨g, e, hg, hc⟩ := hp h0
    exact ⟨g, e, hg, fun j hj => ⟨(World.cell?_alloc_lt w _ _ hg).trans (hc j hj).1, (hc j hj).2.alloc (Nat.le_refl _) _⟩⟩
  have JC := Lib.hid (refJoin_any w.heap.size c A ps (by omega) (by omega) _ (by simp) hp1)
  obtain ⟨dl, hdl⟩ : ∃ l, flat ps ps.length = l := ⟨_, rfl⟩
  rw [hdl] at JC ht ⊢
  clear hdl hp hp1
  obtain ⟨nd, hnd⟩ : ∃ n, dl.length = n := ⟨_, rfl⟩
  rw [hnd] at JC ht
  obtain ⟨np, hnp⟩ : ∃ n, ps.length = n := ⟨_, rfl⟩
  rw [hnp] at JC ⊢
  clear hnp hm hnd hrk
  have HHL := Lib.hid (codeB_length key dl)
  have SE := Lib.hid (show sumB 16 key dl = if 32 < key.length then ([], 1) else (codeB key dl, 0) by
    unfold sumB codeB
    by_cases h : 32 < key.length
    · rw [if_pos (.inr (.inr h)), if_pos h]
    · rw [if_neg (by simp; omega), if_neg h, if_neg h]; rfl)
  have HZ := Lib.hid (show 32 < key.length → codeB key dl = List.replicate 16 0 from fun h => by rw [codeB, if_pos h])
  obtain ⟨hl, hhl⟩ : ∃ l, codeB key dl = l := ⟨_, rfl⟩
  rw [hhl] at HHL SE HZ
  have HHE := Lib.hid hhl
  clear hhl
  obtain ⟨co, hco⟩ : ∃ c, (hl.map u8v).toArray = c := ⟨_, rfl⟩
  have HCO := Lib.hid hco
  clear hco
  go_enter Tryd.func15, Tryd.ntmps15
  go_upto_region 1 with fail
  generalize w.alloc (.cells #[.int .u8 0, .int .u8 0, .int .u8 0, .int .u8 0, .int .u8 0, .int .u8 0, .int .u8 0, .int .u8 0, .int .u8 0, .int .u8 0, .int .u8 0, .int .u8 0, .int .u8 0, .int .u8 0, .int .u8 0, .int .u8 0] 36) = w1 at HM JC ⊢
  go_wp2_with fail
  refine JC.out.mono ?_
  rintro e w2 ⟨A2, c2, rfl, ho, hb⟩
  replace HM := Lib.hid (HM.out.callRd hb ho)
  clear ho hb JC
  go_wp2_with fail
  refine (refSum_any 16 Ak A2 nk ck nd c2 key dl ht _ (HM.out.arg HK.out) (HM.out.rd 0 rfl)).mono ?_
  rintro e w3 ⟨A3, c3, rfl, hr, _, _, hb⟩
  rw [SE.out] at hr ⊢
  replace HM := Lib.hid (HM.out.below hb)
  have HA := Lib.hid (show Mem w [blkE w3.heap.size 36 ((List.replicate 16 (0 : UInt8)).map u8v), rdE w1.heap.size w2.heap.size A2 nd dl, blkE w.heap.size 36 (aeZ 16)] (w3.alloc (.cells #[.int .u8 0, .int .u8 0, .int .u8 0, .int .u8 0, .int .u8 0, .int .u8 0, .int .u8 0, .int .u8 0, .int .u8 0, .int .u8 0, .int .u8 0, .int .u8 0, .int .u8 0, .int .u8 0, .int .u8 0, .int .u8 0] 36)) from HM.out.alloc rfl 36 #[.int .u8 0, .int .u8 0, .int .u8 0, .int .u8 0, .int .u8 0, .int .u8 0, .int .u8 0, .int .u8 0, .int .u8 0, .int .u8 0, .int .u8 0, .int .u8 0, .int .u8 0, .int .u8 0, .int .u8 0, .int .u8 0] _ rfl)
  by_cases h32 : 32 < key.length
  · rw [if_pos h32]
    have hz := HZ.out h32
    rw [← hz] at HA
    clear hr hb HM SE h32 hz HZ
    go_upto_region 3 with fail
    generalize w3.alloc (.cells #[.int .u8 0, .int .u8 0, .int .u8 0, .int .u8 0, .int .u8 0, .int .u8 0, .int .u8 0, .int .u8 0, .int .u8 0, .int .u8 0, .int .u8 0, .int .u8 0, .int .u8 0, .int .u8 0, .int .u8 0, .int .u8 0] 36) = w4 at HA ⊢
    generalize w3.heap.size = P at HA ⊢
    go_wp2_with (first | (refine wpList_copy_none _ rfl (.tmp 15) (.tmp 16) 22 22 rfl 5 Tryd.underlying22 (by kernel_rfl) (some ⟨P, 0, none⟩) A3 16 16 0 c3 rfl rfl rfl ?_) | (refine wpList_load_blk rfl 36 (.tmp 7) rfl P rfl 36 (hl.map u8v) (HA.out.blk 0 rfl) 16 5 Tryd.underlying36 (tagCells hl HHL.out) ?_; rw [HCO.out]) | (refine wpList_store_blk rfl 36 (.tmp 4) (.tmp 18) rfl w.heap.size (hl.map u8v) rfl (by show Value.agg co = _; rw [HCO.out]) 36 (aeZ 16) (HA.out.blk 2 rfl) (tagCells hl HHL.out) (by rw [List.length_map, HHL.out]; rfl) (u8v_one _) ?_; intro w9 hb9 hg9))
    exact bodyPost_ret (results_blk rfl _ _ w.heap.size 36 (hl.map u8v) 16 5 rfl hb9 Tryd.underlying36 (tagCells hl HHL.out)) rfl ⟨by rw [HHE.out], (HA.out.put 2 rfl _ hg9 hb9).bel⟩
  · rw [if_neg h32] at hr ⊢
    dsimp only at hr ⊢
    rw [HHL.out] at hr ⊢
    have hrd := hr
    obtain ⟨g3, off3, rfl, hg3, _⟩ := hrd.2 (by omega)
    have HR := Lib.hid (hr.alloc (Nat.le_refl _) (.cells #[.int .u8 0, .int .u8 0, .int .u8 0, .int .u8 0, .int .u8 0, .int .u8 0, .int .u8 0, .int .u8 0, .int .u8 0, .int .u8 0, .int .u8 0, .int .u8 0, .int .u8 0, .int .u8 0, .int .u8 0, .int .u8 0] 36))
    clear hr hrd hb HM SE h32 HZ
    go_upto_region 3 with fail
    generalize w3.alloc (.cells #[.int .u8 0, .int .u8 0, .int .u8 0, .int .u8 0, .int .u8 0, .int .u8 0, .int .u8 0, .int .u8 0, .int .u8 0, .int .u8 0, .int .u8 0, .int .u8 0, .int .u8 0, .int .u8 0, .int .u8 0, .int .u8 0] 36) = w4 at HA HR ⊢
    generalize w3.heap.size = P at HA HR hg3 ⊢
    go_wp2_with (refine wpList_copy_bytes _ rfl (.tmp 15) (.tmp 16) 22 22 rfl 5 Tryd.underlying22 (by kernel_rfl) P 0 16 16 ⟨g3, off3, none⟩ 16 c3 rfl rfl ((List.replicate 16 (0 : UInt8)).map u8v) 36 (HA.out.blk 0 rfl) (hl.map u8v) (by rw [List.length_map, HHL.out]; rfl) HR.out.src (by rw [List.length_map, List.length_map, HHL.out]; decide) (u8v_one _) ?_; intro w5 hb5 hg5; rw [putL_map, show putL (List.replicate 16 0) 0 hl = hl from by rw [putL, List.take_zero, List.nil_append, HHL.out, show (List.replicate 16 (0 : UInt8)).drop (0 + 16) = [] from rfl, List.append_nil]] at hb5; have HM5 := Lib.hid (show Mem w [blkE P 36 (hl.map u8v), rdE w1.heap.size w2.heap.size A2 nd dl, blkE w.heap.size 36 (aeZ 16)] w5 from HA.out.put 0 rfl _ hg5 hb5); clear hb5 hg5 HA HR; go_wp2_with (first | (refine wpList_load_blk rfl 36 (.tmp 7) rfl P rfl 36 (hl.map u8v) (HM5.out.blk 0 rfl) 16 5 Tryd.underlying36 (tagCells hl HHL.out) ?_; rw [HCO.out]) | (refine wpList_store_blk rfl 36 (.tmp 4) (.tmp 18) rfl w.heap.size (hl.map u8v) rfl (by show Value.agg co = _; rw [HCO.out]) 36 (aeZ 16) (HM5.out.blk 2 rfl) (tagCells hl HHL.out) (by rw [List.length_map, HHL.out]; rfl) (u8v_one _) ?_; intro w9 hb9 hg9)))
    exact bodyPost_ret (results_blk rfl _ _ w.heap.size 36 (hl.map u8v) 16 5 rfl hb9 Tryd.underlying36 (tagCells hl HHL.out)) rfl ⟨by rw [HHE.out], (HM5.out.put 2 rfl _ hg9 hb9).bel⟩
end Go.Proofs.YtellicmnopfkgaaDoor
