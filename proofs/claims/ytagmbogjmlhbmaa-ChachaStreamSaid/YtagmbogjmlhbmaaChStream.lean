/-
  ChachaStream returns true for every key, counter, nonce and place, and changes nothing that was there: the walk.
-/
import Derived.Test.YtagmbogjmlhbmaaChEnv
namespace Go.Proofs.Ytagmbogjmlhbmaa
open Go.RowKit
/-- 'make' of a full slice inside a region that draws its order -/
theorem step_make_full {P : Program} (w : World) {ops : Array Oper} {o : Oper} {a : Act} {K : Act → World → Prop} {Q : Exit → Act → World → Prop} {E : Prop} (hgd : o.guard = none) (l c : Operand) (t : TypeId) (ho : o.op = Op.makeSlice t l c)
    (base : Nat) (e : TypeId) (i : TypeInfo) (z : Value) (size : Nat) (h1 : P.underlying t = some (.slice e)) (h2 : P.info? e = some i) (h3 : i.zero = some z) (h4 : i.size = size)
    (kl kc : IntKind) (n : Nat) (hl : a.eval l = .int kl (n : Int)) (hc : a.eval c = .int kc (n : Int)) (b2 : i.bytes * n ≤ 281474976710656) (b3 : n ≤ maxLen) (b4 : base ≤ w.heap.size)
    (h : ∀ w', w'.ownsRow base e size (.slice (some ⟨w.heap.size, 0, none⟩) n n) n (madeCells z.cells (n * size)).toList → w.grownBy w' none → K (a.put o.dst (.slice (some ⟨w.heap.size, 0, none⟩) n n)) w') :
    if Region.wanted o (yielded ops a.tmps) = true then Oper.wp P o a w K Q else E := by
  have hw : Region.wanted o (yielded ops a.tmps) = true := by simp [Region.wanted, hgd]
  rw [if_pos hw]
  obtain ⟨w', hrun, r1, r2⟩ := run_make_full (P := P) w base t e i z size h1 h2 h3 h4 kl kc n b2 b3 b4
  unfold Oper.wp
  simp [execOp, ho, hl, hc, hrun, Result.andThen]
  exact h w' r1 r2
theorem made_n (n : Nat) : (madeCells (Value.int IntKind.u8 0).cells (n * 1)).toList = (List.replicate n (0 : UInt8)).map u8v := by
  rw [show (Value.int IntKind.u8 0).cells = #[.int .u8 0] from rfl, toList_madeCells_one, Nat.mul_one, List.map_replicate]
  rfl
theorem xor_zero_get (k : List UInt8) (c : UInt32) (nn : List UInt8) (n p : Nat) (hp : p < n) : (xorL k c nn (List.replicate n 0)).getD p 0 = (blockL k (c + UInt32.ofNat (p / 64)) nn).getD (p % 64) 0 := by
  have h0 : p < (List.replicate n (0 : UInt8)).length := by rw [List.length_replicate]; exact hp
  have h : p < (xorL k c nn (List.replicate n 0)).length := by rw [xorL_length]; exact h0
  rw [show (xorL k c nn (List.replicate n 0)).getD p 0 = (xorL k c nn (List.replicate n 0))[p] by simp [List.getD, h], xorL_get _ _ _ _ _ h0, List.getElem_replicate, UInt8.zero_xor]
  rfl
def o256 : List UInt8 := List.replicate 256 0
theorem made256 : (madeCells (Value.int IntKind.u8 0).cells (256 * 1)).toList = o256.map u8v := made_n 256

set_option maxRecDepth 100000 in
set_option maxHeartbeats 2000000 in
theorem stream_walk (w : World) (k : List UInt8) (c : UInt32) (nn : List UInt8) (p : Nat) (hk : k.length = 32) (hn : nn.length = 12) (hp : p ≤ 255) :
    Calls Try.prog 6 #[.agg (k.map u8v).toArray, .int .u32 (c.toNat : Int), .agg (nn.map u8v).toArray, .int .u8 (p : Int)] w fun e w' => e = .returned (.bool true) ∧ Below w.heap.size w w' := by
  obtain ⟨i0, hi, hz0, hz1, hz2⟩ := info_parts Try.info5
  have BC := fun (c' : UInt32) (w' : World) => block_any k nn hk hn c' w'
  have XC := fun (c' : UInt32) (D : Option Addr) (n' cap' : Nat) (l' : List UInt8) (hn6 : n' ≤ 1000000) (w' : World) (hr' : Rd w' w'.heap.size D n' l') => xor_rd k nn hk hn c' D n' cap' l' hn6 w' hr'
  obtain ⟨ck, hck⟩ : ∃ ck, (k.map u8v).toArray = ck := ⟨_, rfl⟩
  obtain ⟨cn, hcn⟩ : ∃ cn, (nn.map u8v).toArray = cn := ⟨_, rfl⟩
  rw [hck, hcn] at XC
  rw [hck, hcn]
  have HK0 := Lib.hid (show Blk (w.alloc (.cells ck 25)) w.heap.size 25 (k.map u8v) by rw [← hck]; exact Blk.new w _ _)
  have HN0 := Lib.hid (show Blk ((w.alloc (.cells ck 25)).alloc (.cells cn 27)) (w.heap.size + 1) 27 (nn.map u8v) by rw [← hcn]; exact Blk.new' _ (by simp) _ _)
  have HCK := Lib.hid hck
  have HCN := Lib.hid hcn
  have HXC := Lib.hid XC
  have HK := Lib.hid hk
  have HN := Lib.hid hn
  clear hk hn hck hcn XC
  rw [HCK.out, HCN.out] at BC
  go_enter Try.func6, Try.ntmps6
  go_upto_region 1 with fail
  have hbel1 : Below w.heap.size w ((w.alloc (.cells ck 25)).alloc (.cells cn 27)) := ((Below.refl _ _).alloc (Nat.le_refl _) _).alloc (by simp) _
  have E1 : Env w w.heap.size k nn [] ((w.alloc (.cells ck 25)).alloc (.cells cn 27)) := ⟨HK0.out.alloc _, HN0.out, (fun q hq => by cases hq), hbel1⟩
  clear HK0 HN0 hbel1
  generalize (w.alloc (.cells ck 25)).alloc (.cells cn 27) = w1 at E1 ⊢
  replace E1 := Lib.hid E1
  have HBC := Lib.hid BC
  clear BC
  refine wp_region_held_drew (S := fun w' => Below w1.heap.size w1 w') (by kernel_rfl) ((Below.refl w1.heap.size w1).drew) (fun hHeld => ?_)
  refine take_first (v := .agg ck) 0 rfl (by kernel_rfl) (by kernel_rfl) (by kernel_rfl) (fun _ _ _ h => h) ((by rw [← HCK.out]; exact yields_load_blk (by rfl) 25 (.tmp 4) rfl w.heap.size rfl 25 (k.map u8v) (fun w' hb => (E1.out.below hb).1) 32 5 Try.underlying25 (cells32 k HK.out))) (by assumption) ?_
  (try simp only [Act.put, List.setIfInBounds_toArray, List.set_cons_zero, List.set_cons_succ])
  refine take_first (v := ?_) 1 rfl (by kernel_rfl) (by kernel_rfl) (by kernel_rfl) (fun _ _ _ h => h) (Or.inl ⟨by rfl, ?_⟩) (by assumption) ?_
  rotate_left
  · (intro w hSw; (try dsimp only at hSw); go_simp; try with_reducible rfl)
  (try simp only [Act.put, List.setIfInBounds_toArray, List.set_cons_zero, List.set_cons_succ])
  refine take_first (v := .agg cn) 2 rfl (by kernel_rfl) (by kernel_rfl) (by kernel_rfl) (fun _ _ _ h => h) ((by rw [← HCN.out]; exact yields_load_blk (by rfl) 27 (.tmp 6) rfl (w.heap.size + 1) rfl 27 (nn.map u8v) (fun w' hb => (E1.out.below hb).2.1) 12 5 Try.underlying27 (cells12 nn HN.out))) (by assumption) ?_
  (try simp only [Act.put, List.setIfInBounds_toArray, List.set_cons_zero, List.set_cons_succ])
  refine step_one 3 rfl (by kernel_rfl) (fun K hK => ?_)
  refine step_make_full _ rfl (.const (.int .i64 256)) (.const (.int .i64 256)) 33 rfl w1.heap.size 5 i0 (.int .u8 0) 1 Try.underlying33 hi hz0 hz1 .i64 .i64 256 rfl rfl (by rw [hz2]; omega) (by unfold maxLen; omega) (Nat.le_refl _) ?_
  intro w2 hown2 hg2
  have hb2 : Below w1.heap.size w1 w2 := ((Below.refl w1.heap.size w1).drew).grown hg2 (Nat.le_refl _) (by simp)
  refine hK.out _ _ (hb2) (fun hHeld => ?_)
  clear hK K
  (try simp only [Act.put, List.setIfInBounds_toArray, List.set_cons_zero, List.set_cons_succ])
  rw [made256] at hown2
  have E2 := (E1.out.below hb2).cons (Rd.of_own hown2)
  replace E2 := Lib.hid E2
  refine wpAnyH_later hb2 ?_
  replace hHeld := Below.refl w2.heap.size w2
  clear hown2 hg2 hb2
  refine step_one 4 rfl (by kernel_rfl) (fun K hK => ?_)
  go_simp
  refine (HXC.out c _ 256 256 o256 (by omega) _ ((E2.out.below hHeld).rd (List.mem_cons_self))).mono ?_
  rintro e wA ⟨G, rfl, hrA, hbA⟩
  go_wp2_with fail
  refine hK.out _ _ (hHeld.trans (hbA.mono hHeld.size)) (fun hHeld => ?_)
  clear hK K
  (try simp only [Act.put, List.setIfInBounds_toArray, List.set_cons_zero, List.set_cons_succ])
  have E3 := (E2.out.below hHeld).cons hrA
  obtain ⟨X, hX⟩ : ∃ X, xorL k c nn o256 = X := ⟨_, rfl⟩
  rw [hX] at E3
  replace E3 := Lib.hid E3
  have HX := Lib.hid hX
  clear hX hrA hbA
  refine take_first (v := ?_) 5 rfl (by kernel_rfl) (by kernel_rfl) (by kernel_rfl) (fun _ _ _ h => h) (Or.inl ⟨by rfl, ?_⟩) (by assumption) ?_
  rotate_left
  · (intro w hSw; (try dsimp only at hSw); go_simp; try with_reducible rfl)
  (try simp only [Act.put, List.setIfInBounds_toArray, List.set_cons_zero, List.set_cons_succ])
  refine wpAnyH_done (by kernel_rfl) ?_ _
  go_wp2_with (first | (refine wpList_load_blk rfl 25 (.tmp 4) rfl w.heap.size rfl 25 (k.map u8v) E3.out.1 32 5 Try.underlying25 (cells32 k HK.out) ?_; rw [HCK.out]) | (refine wpList_load_blk rfl 27 (.tmp 6) rfl (w.heap.size + 1) rfl 27 (nn.map u8v) E3.out.2.1 12 5 Try.underlying27 (cells12 nn HN.out) ?_; rw [HCN.out]))
  clear hHeld
  obtain ⟨c1, hc1⟩ : ∃ c1, c + UInt32.ofNat (p / 64) = c1 := ⟨_, rfl⟩
  have hcv : ((c.toNat : Int) + (p : Int) / 64) % 4294967296 = (c1.toNat : Int) := by
    rw [← hc1, UInt32.toNat_add, UInt32.toNat_ofNat', Nat.mod_eq_of_lt (show p / 64 < 2 ^ 32 by omega)]
    omega
  rw [hcv]
  clear hcv
  obtain ⟨bl, hbl⟩ : ∃ bl, blockL k c1 nn = bl := ⟨_, rfl⟩
  have HB := HBC.out c1
  rw [hbl] at HB
  have H64 := Lib.hid (show bl.length = 64 by rw [← hbl]; exact blockL_length _ _ _)
  have hx := xor_zero_get k c nn 256 p (by omega)
  rw [show List.replicate 256 (0 : UInt8) = o256 from rfl, HX.out, hc1, hbl] at hx
  obtain ⟨sb, hsb⟩ : ∃ sb, (bl.map u8v).toArray = sb := ⟨_, rfl⟩
  rw [hsb] at HB
  have HSB := Lib.hid hsb
  have HCB := Lib.hid HB
  have HXL := Lib.hid (show X.length = 256 from (E3.out.rd (List.mem_cons_self)).1)
  obtain ⟨x, hxx⟩ : ∃ x, X.getD p 0 = x := ⟨_, rfl⟩
  rw [hxx] at hx
  have HXX := Lib.hid hxx
  have HXB := Lib.hid hx
  clear HB hbl hsb hc1 hx hxx
  refine (HCB.out _).mono ?_
  rintro e w3 ⟨rfl, hb3⟩
  have E4 := Lib.hid (E3.out.below hb3)
  clear E3 hb3
  go_upto_region 3 with (refine wpList_store_blk rfl 29 (.tmp 10) (.tmp 23) rfl w3.heap.size (bl.map u8v) rfl (by rw [HSB.out]; rfl) 29 z64 (Blk.new w3 29 z64) (cells64 bl H64.out) (by rw [List.length_map, H64.out]; rfl) (u8v_one _) ?_; intro w4 hb4 hg4)
  simp only [Act.put]
  have hb34 : Below w3.heap.size w3 w4 := Below.grown ((Below.refl _ _).alloc (Nat.le_refl _) (.cells z64.toArray 29)) hg4 (by simp) (by intro k hk; injection hk with hk; omega)
  have E5 := Lib.hid (E4.out.below hb34)
  have HB4 := Lib.hid hb4
  clear hb34 hb4 hg4
  have cx : ∀ w' : World, Below w4.heap.size w4 w' → w'.cell? ⟨G, p, none⟩ = some (.int .u8 (x.toNat : Int)) := fun w' hb => by
    have hpX : p < X.length := by rw [HXL.out]; omega
    rw [((E5.out.below hb).rd (List.mem_cons_self)).cell0 p hpX, ← HXX.out]
    simp [List.getD, hpX]
  have cy : ∀ w' : World, Below w4.heap.size w4 w' → w'.cell? ⟨w3.heap.size, p % 64, none⟩ = some (.int .u8 (x.toNat : Int)) := fun w' hb => by
    have hpB : p % 64 < bl.length := by rw [H64.out]; omega
    rw [(HB4.out.below hb HB4.out.lt).cell, map_u8v_getElem? _ _ hpB, HXB.out]
    simp [List.getD, hpB]
  have b1 : (p : Int) < 256 := by omega
  obtain ⟨t, ht⟩ : ∃ t, p % 64 = t := ⟨_, rfl⟩
  rw [ht] at cy
  have b2 : (t : Int) < 64 := by omega
  have hr1 : (p : Int).tmod 64 = (t : Int) := by
    rw [Int.tmod_eq_emod_of_nonneg (by omega)]
    omega
  have hrem : IntKind.u8.wrap ((p : Int).tmod 64) = (t : Int) := by
    rw [hr1, IntKind.wrap_u8]
    omega
  clear ht
  refine wp_region_held_drew (S := fun w' => Below w4.heap.size w4 w') (by kernel_rfl) ((Below.refl w4.heap.size w4).drew) (fun hHeld => ?_)
  refine take_first (v := ?_) 0 rfl (by kernel_rfl) (by kernel_rfl) (by kernel_rfl) (fun _ _ _ h => h) (Or.inl ⟨by rfl, ?_⟩) (by assumption) ?_
  rotate_left
  · (intro w hSw; (try dsimp only at hSw); go_simp; try with_reducible rfl)
  (try simp only [Act.put, List.setIfInBounds_toArray, List.set_cons_zero, List.set_cons_succ])
  refine take_first (v := ?_) 1 rfl (by kernel_rfl) (by kernel_rfl) (by kernel_rfl) (fun _ _ _ h => h) (Or.inl ⟨by rfl, ?_⟩) (by assumption) ?_
  rotate_left
  · (intro w hSw; (try dsimp only at hSw); go_simp; try with_reducible rfl)
  (try simp only [Act.put, List.setIfInBounds_toArray, List.set_cons_zero, List.set_cons_succ])
  refine take_first (v := ?_) 2 rfl (by kernel_rfl) (by kernel_rfl) (by kernel_rfl) (fun _ _ _ h => h) (Or.inl ⟨by rfl, ?_⟩) (by assumption) ?_
  rotate_left
  · (intro w hSw; (try dsimp only at hSw); go_simp; try with_reducible rfl)
  (try simp only [Act.put, List.setIfInBounds_toArray, List.set_cons_zero, List.set_cons_succ])
  refine take_first (v := ?_) 3 rfl (by kernel_rfl) (by kernel_rfl) (by kernel_rfl) (fun _ _ _ h => h) (Or.inl ⟨by rfl, ?_⟩) (by assumption) ?_
  rotate_left
  · (intro w hSw; (try dsimp only at hSw); go_simp; try with_reducible rfl)
  (try simp only [Act.put, List.setIfInBounds_toArray, List.set_cons_zero, List.set_cons_succ])
  refine take_first (v := ?_) 4 rfl (by kernel_rfl) (by kernel_rfl) (by kernel_rfl) (fun _ _ _ h => h) (Or.inl ⟨by rfl, ?_⟩) (by assumption) ?_
  rotate_left
  · (intro w hSw; (try dsimp only at hSw); go_simp; try with_reducible rfl)
  (try simp only [Act.put, List.setIfInBounds_toArray, List.set_cons_zero, List.set_cons_succ])
  refine take_first (v := ?_) 5 rfl (by kernel_rfl) (by kernel_rfl) (by kernel_rfl) (fun _ _ _ h => h) (Or.inl ⟨by rfl, ?_⟩) (by assumption) ?_
  rotate_left
  · (intro w hSw; (try dsimp only at hSw); go_simp; try with_reducible rfl)
  (try simp only [Act.put, List.setIfInBounds_toArray, List.set_cons_zero, List.set_cons_succ])
  refine take_first (v := ?_) 6 rfl (by kernel_rfl) (by kernel_rfl) (by kernel_rfl) (fun _ _ _ h => h) (Or.inl ⟨by rfl, ?_⟩) (by assumption) ?_
  rotate_left
  · (intro w hSw; (try dsimp only at hSw); go_simp; try with_reducible rfl)
  (try simp only [Act.put, List.setIfInBounds_toArray, List.set_cons_zero, List.set_cons_succ])
  refine take_first (v := .int .u8 (x.toNat : Int)) 7 rfl (by kernel_rfl) (by kernel_rfl) (by kernel_rfl) (fun _ _ _ h => h) (Or.inl ⟨by rfl, fun w' hSw => by have h := cx w' hSw; go_simp⟩) (by assumption) ?_
  (try simp only [Act.put, List.setIfInBounds_toArray, List.set_cons_zero, List.set_cons_succ])
  refine take_first (v := ?_) 8 rfl (by kernel_rfl) (by kernel_rfl) (by kernel_rfl) (fun _ _ _ h => h) (Or.inl ⟨by rfl, ?_⟩) (by assumption) ?_
  rotate_left
  · (intro w hSw; (try dsimp only at hSw); go_simp; try with_reducible rfl)
  (try simp only [Act.put, List.setIfInBounds_toArray, List.set_cons_zero, List.set_cons_succ])
  refine take_first (v := ?_) 9 rfl (by kernel_rfl) (by kernel_rfl) (by kernel_rfl) (fun _ _ _ h => h) (Or.inl ⟨by rfl, ?_⟩) (by assumption) ?_
  rotate_left
  · (intro w hSw; (try dsimp only at hSw); go_simp; try with_reducible rfl)
  (try simp only [Act.put, List.setIfInBounds_toArray, List.set_cons_zero, List.set_cons_succ])
  refine take_first (v := ?_) 10 rfl (by kernel_rfl) (by kernel_rfl) (by kernel_rfl) (fun _ _ _ h => h) (Or.inl ⟨by rfl, ?_⟩) (by assumption) ?_
  rotate_left
  · (intro w hSw; (try dsimp only at hSw); go_simp; try with_reducible rfl)
  (try simp only [Act.put, List.setIfInBounds_toArray, List.set_cons_zero, List.set_cons_succ])
  refine take_first (v := .int .u8 (x.toNat : Int)) 11 rfl (by kernel_rfl) (by kernel_rfl) (by kernel_rfl) (fun _ _ _ h => h) (Or.inl ⟨by rfl, fun w' hSw => by have h := cy w' hSw; go_simp⟩) (by assumption) ?_
  (try simp only [Act.put, List.setIfInBounds_toArray, List.set_cons_zero, List.set_cons_succ])
  refine take_first (v := ?_) 12 rfl (by kernel_rfl) (by kernel_rfl) (by kernel_rfl) (fun _ _ _ h => h) (Or.inl ⟨by rfl, ?_⟩) (by assumption) ?_
  rotate_left
  · (intro w hSw; (try dsimp only at hSw); go_simp; try with_reducible rfl)
  (try simp only [Act.put, List.setIfInBounds_toArray, List.set_cons_zero, List.set_cons_succ])
  refine take_first (v := ?_) 13 rfl (by kernel_rfl) (by kernel_rfl) (by kernel_rfl) (fun _ _ _ h => h) (Or.inl ⟨by rfl, ?_⟩) (by assumption) ?_
  rotate_left
  · (intro w hSw; (try dsimp only at hSw); go_simp; try with_reducible rfl)
  (try simp only [Act.put, List.setIfInBounds_toArray, List.set_cons_zero, List.set_cons_succ])
  refine take_first (v := ?_) 14 rfl (by kernel_rfl) (by kernel_rfl) (by kernel_rfl) (fun _ _ _ h => h) (Or.inl ⟨by rfl, ?_⟩) (by assumption) ?_
  rotate_left
  · (intro w hSw; (try dsimp only at hSw); go_simp; try with_reducible rfl)
  (try simp only [Act.put, List.setIfInBounds_toArray, List.set_cons_zero, List.set_cons_succ])
  refine step_one 15 rfl (by kernel_rfl) (fun K hK => ?_)
  go_simp
  refine (begun_any _).mono ?_
  rintro e wC ⟨rfl, hbC⟩
  go_wp2_with fail
  refine hK.out _ _ (hHeld.trans (hbC.mono hHeld.size)) (fun hHeld => ?_)
  clear hK K
  (try simp only [Act.put, List.setIfInBounds_toArray, List.set_cons_zero, List.set_cons_succ])
  refine take_first (v := ?_) 16 rfl (by kernel_rfl) (by kernel_rfl) (by kernel_rfl) (fun _ _ _ h => h) (Or.inl ⟨by rfl, ?_⟩) (by assumption) ?_
  rotate_left
  · (intro w hSw; (try dsimp only at hSw); go_simp; try with_reducible rfl)
  (try simp only [Act.put, List.setIfInBounds_toArray, List.set_cons_zero, List.set_cons_succ])
  refine take_first (v := ?_) 17 rfl (by kernel_rfl) (by kernel_rfl) (by kernel_rfl) (fun _ _ _ h => h) (Or.inl ⟨by rfl, ?_⟩) (by assumption) ?_
  rotate_left
  · (intro w hSw; (try dsimp only at hSw); go_simp; try with_reducible rfl)
  (try simp only [Act.put, List.setIfInBounds_toArray, List.set_cons_zero, List.set_cons_succ])
  refine wpAnyH_done (by kernel_rfl) ?_ _
  have HEND := Lib.hid (E5.out.2.2.2.trans (hHeld.mono E5.out.2.2.2.size))
  clear hHeld cx cy
  go_wp2
  go_ret
  exact ⟨rfl, HEND.out⟩
end Go.Proofs.Ytagmbogjmlhbmaa
