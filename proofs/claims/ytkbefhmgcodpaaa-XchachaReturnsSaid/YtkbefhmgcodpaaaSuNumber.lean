/-
  The contract of the program's numberOf: the number of a piece and its byte 1.
-/
import Derived.Test.YtkbefhmgcodpaaaSuFactor
import Derived.Test.YtkbefhmgcodpaaaPoPoly
namespace Go.Proofs.Ytkbefhmgcodpaaa
open Go.RowKit

def z17u : List Value := List.replicate 17 (.int .u8 0)
theorem z17u_arr : z17u.toArray = #[.int .u8 0, .int .u8 0, .int .u8 0, .int .u8 0, .int .u8 0, .int .u8 0, .int .u8 0, .int .u8 0, .int .u8 0, .int .u8 0, .int .u8 0, .int .u8 0, .int .u8 0, .int .u8 0, .int .u8 0, .int .u8 0, .int .u8 0] := rfl
theorem cells17u (l : List UInt8) (h : l.length = 17) : (Try.prog.info? 83).map (·.size) = some (l.map u8v).length := by
  rw [List.length_map, h]; kernel_rfl
theorem copied_row (l : List UInt8) : z17u.take 0 ++ l.map u8v ++ z17u.drop (0 + (l.map u8v).length) = (l ++ List.replicate (17 - l.length) 0).map u8v := by
  rw [List.take_zero, List.nil_append, List.map_append, List.length_map, Nat.zero_add, z17u, List.drop_replicate, List.map_replicate]
  rfl
theorem one_row (l : List UInt8) (h : l.length ≤ 16) : (l ++ List.replicate (17 - l.length) 0).set l.length 1 = bytesP l := by
  rw [List.set_append_right _ _ (Nat.le_refl _), Nat.sub_self, show 17 - l.length = (16 - l.length) + 1 by omega, List.replicate_succ, List.set_cons_zero]
  rfl
theorem cell16 {w : World} {g tw : Nat} (l : List UInt8) (hl : (bytesP l).length = 17) (ht : ((bytesP l).getD 16 0).toNat = tw) (h : Blk w g 83 ((bytesP l).map u8v)) : w.cell? ⟨g, 16, none⟩ = some (.int .u8 (tw : Int)) := by
  rw [h.cell 16, map_u8v_getElem? (bytesP l) 16 (by omega), ← ht, getD_lt (by omega)]

set_option maxRecDepth 100000 in
set_option maxHeartbeats 2000000 in
theorem numberOf_any (A : Option Addr) (n cap : Nat) (l : List UInt8) (hn0 : 0 < n) (hn : n ≤ 16) (w : World) (hr : Rd w w.heap.size A n l) :
    Calls Try.prog 53 #[.slice A n cap] w fun e w' => e = .returned (.agg ((numP l).map lv).toArray) ∧ Below w.heap.size w w' := by
  have hl : l.length = n := hr.1
  obtain ⟨sb, soff, rfl, hsb, hsc⟩ := hr.2 hn0
  have hlen := bytesP_length l (by omega)
  have top := topW_le l (by omega)
  have sc := split_any (lowW (bytesP l)) (highW (bytesP l)) (topW l) (take8_lt _) (take8_lt _) (by omega)
  obtain ⟨lz, hlz⟩ : ∃ lz, numP l = lz := ⟨_, rfl⟩
  rw [show splitN (lowW (bytesP l)) (highW (bytesP l)) (topW l) = lz from hlz] at sc
  have HZL := Lib.hid (show lz.length = 5 by rw [← hlz, numP, splitN_length])
  rw [hlz]
  obtain ⟨cz, hcz⟩ : ∃ cz, (lz.map lv).toArray = cz := ⟨_, rfl⟩
  rw [hcz] at sc ⊢
  have e1 : numL (((bytesP l).take 8).take 8) = lowW (bytesP l) := by rw [List.take_take]; rfl
  have e2 : numL ((((bytesP l).drop 8).take 8).take 8) = highW (bytesP l) := by rw [List.take_take]; rfl
  have htd : ((bytesP l).getD 16 0).toNat = topW l := rfl
  have hwt : IntKind.u64.wrap (topW l : Int) = (topW l : Int) := by rw [IntKind.wrap_u64]; omega
  generalize lowW (bytesP l) = lw at e1 sc
  generalize highW (bytesP l) = hw at e2 sc
  generalize topW l = tw at htd sc hwt
  have HSC := Lib.hid (And.intro sc hcz)
  have HN := Lib.hid (And.intro e1 (And.intro e2 (And.intro htd hwt)))
  have h0 := (Blk.new w 76 z5).alloc (.cells z17u.toArray 83)
  have h1 : Blk ((w.alloc (.cells z5.toArray 76)).alloc (.cells z17u.toArray 83)) (w.heap.size + 1) 83 z17u := Blk.new' _ (by simp) _ _
  have h2 : Below w.heap.size w ((w.alloc (.cells z5.toArray 76)).alloc (.cells z17u.toArray 83)) := ((Below.refl _ _).alloc (Nat.le_refl _) _).alloc (by simp) _
  have hs1 : ∀ j v, (l.map u8v)[j]? = some v → ((w.alloc (.cells z5.toArray 76)).alloc (.cells z17u.toArray 83)).cell? ((Addr.mk sb soff none).add j) = some v := by
    intro j v hv
    have hj : j < l.length := by simpa using (List.getElem?_eq_some_iff.1 hv).1
    rw [Go.WideShapes.add_plain, h2.cell (by exact hsb), hsc j hj]
    rw [map_u8v_getElem? l j hj] at hv
    exact hv
  rw [z5_arr, z17u_arr] at h0 h1 h2 hs1
  have HL := Lib.hid (And.intro hl hlen)
  have HS := Lib.hid hs1
  clear hl hlen hsc hs1 sc hcz hlz hr top e1 e2 htd hwt
  go_enter Try.func53, Try.ntmps53
  go_upto_region 2 with fail
  generalize ((w.alloc (.cells #[.int .u64 0, .int .u64 0, .int .u64 0, .int .u64 0, .int .u64 0] 76)).alloc (.cells #[.int .u8 0, .int .u8 0, .int .u8 0, .int .u8 0, .int .u8 0, .int .u8 0, .int .u8 0, .int .u8 0, .int .u8 0, .int .u8 0, .int .u8 0, .int .u8 0, .int .u8 0, .int .u8 0, .int .u8 0, .int .u8 0, .int .u8 0] 83)) = w1 at h0 h1 h2 HS ⊢
  have H1 := Lib.hid (And.intro h0 (And.intro h1 h2))
  clear h0 h1 h2
  go_upto_region 3 with (refine wpList_copy_bytes _ rfl (.tmp 4) (.tmp 5) 27 27 rfl 5 Try.underlying27 (by kernel_rfl) (w.heap.size + 1) 0 17 17 ⟨sb, soff, none⟩ n cap rfl rfl z17u 83 H1.out.2.1 (l.map u8v) (by rw [List.length_map, HL.out.1]; exact (Nat.min_eq_left (by omega)).symm) HS.out (by rw [List.length_map, HL.out.1]; show 0 + n ≤ 17; omega) (u8v_one _) ?_; intro w2 hb2 hg2)
  simp only [Act.put]
  rw [copied_row] at hb2
  have hk0 := H1.out.1.grown hg2 (by simp)
  have hk2 := below_blk H1.out.2.2 hg2 (by omega)
  have hlr : (l ++ List.replicate (17 - l.length) 0).length = 17 := by rw [List.length_append, List.length_replicate, HL.out.1]; omega
  have fx : ∃ u, w2.cell? ⟨w.heap.size + 1, n, none⟩ = some u := by
    rw [hb2.cell n]
    exact ⟨_, List.getElem?_eq_getElem (by rw [List.length_map, hlr]; omega)⟩
  obtain ⟨u, fx⟩ := fx
  have zx := hb2.frozen n
  have hset := hb2.set_ n (.int .u8 1)
  rw [show (.int .u8 1 : Value) = u8v 1 from rfl, ← List.map_set, ← HL.out.1, one_row l (by rw [HL.out.1]; exact hn), HL.out.1, show u8v 1 = (.int .u8 1 : Value) from rfl] at hset
  have H2 := Lib.hid (show Blk (w2.setCell ⟨w.heap.size + 1, n, none⟩ (.int .u8 1)) (w.heap.size + 1) 83 ((bytesP l).map u8v) ∧ Blk (w2.setCell ⟨w.heap.size + 1, n, none⟩ (.int .u8 1)) w.heap.size 76 z5 ∧ Below w.heap.size w (w2.setCell ⟨w.heap.size + 1, n, none⟩ (.int .u8 1)) from ⟨hset, hk0.far (by simp) _, hk2.setCell (by dsimp only; omega) _⟩)
  have bt : (n : Int) < 17 := by omega
  clear hb2 hg2 hk0 hk2 hlr hset H1 HS
  go_upto_region 4 with fail
  generalize w2.setCell ⟨w.heap.size + 1, n, none⟩ (.int .u8 1) = w3 at H2 ⊢
  clear fx zx bt
  have H3 := Lib.hid (show Blk w3 (w.heap.size + 1) 83 ((bytesP l).map u8v) ∧ Blk w3 w.heap.size 76 z5 ∧ Below w.heap.size w w3 from H2.out)
  clear H2
  refine wp_region_held_drew (S := fun w4 => Below w.heap.size w w4 ∧ Blk w4 (w.heap.size + 1) 83 ((bytesP l).map u8v) ∧ ∃ c : List Nat, c.length = 5 ∧ Blk w4 w.heap.size 76 (c.map lv)) (by kernel_rfl) (⟨H3.out.2.2.drew, H3.out.1.drew, ⟨List.replicate 5 0, rfl, H3.out.2.1.drew⟩⟩) (fun hHeld => ?_)
  refine take_first (v := ?_) 0 rfl (by kernel_rfl) (by kernel_rfl) (by kernel_rfl) (fun _ _ _ h => h) (Or.inl ⟨by rfl, ?_⟩) (by assumption) ?_
  rotate_left
  · (intro w hSw; (try dsimp only at hSw); go_simp; try with_reducible rfl)
  (try simp only [Act.put, List.setIfInBounds_toArray, List.set_cons_zero, List.set_cons_succ])
  refine take_first (v := ?_) 2 rfl (by kernel_rfl) (by kernel_rfl) (by kernel_rfl) (fun _ _ _ h => h) (Or.inl ⟨by rfl, ?_⟩) (by assumption) ?_
  rotate_left
  · (intro w hSw; (try dsimp only at hSw); go_simp; try with_reducible rfl)
  (try simp only [Act.put, List.setIfInBounds_toArray, List.set_cons_zero, List.set_cons_succ])
  refine take_first (v := ?_) 4 rfl (by kernel_rfl) (by kernel_rfl) (by kernel_rfl) (fun _ _ _ h => h) (Or.inl ⟨by rfl, ?_⟩) (by assumption) ?_
  rotate_left
  · (intro w hSw; (try dsimp only at hSw); go_simp; try with_reducible rfl)
  (try simp only [Act.put, List.setIfInBounds_toArray, List.set_cons_zero, List.set_cons_succ])
  refine take_first (v := .int .u8 (tw : Int)) 5 rfl (by kernel_rfl) (by kernel_rfl) (by kernel_rfl) (fun _ _ _ h => h) (Or.inl ⟨by rfl, by intro w5 hSw; have f16 := cell16 l HL.out.2 HN.out.2.2.1 hSw.2.1; go_simp⟩) (by assumption) ?_
  (try simp only [Act.put, List.setIfInBounds_toArray, List.set_cons_zero, List.set_cons_succ])
  refine take_first (v := ?_) 6 rfl (by kernel_rfl) (by kernel_rfl) (by kernel_rfl) (fun _ _ _ h => h) (Or.inl ⟨by rfl, ?_⟩) (by assumption) ?_
  rotate_left
  · (intro w hSw; (try dsimp only at hSw); go_simp; try with_reducible rfl)
  (try simp only [Act.put, List.setIfInBounds_toArray, List.set_cons_zero, List.set_cons_succ])
  refine step_one 1 rfl (by kernel_rfl) (fun K hK => ?_)
  go_simp
  refine (readLittle_any _ _ 8 17 _ (by omega) _ (by have := hHeld.2.1.rd 0 8 (by rw [HL.out.2]; omega); rwa [List.drop_zero] at this)).mono ?_
  rintro e w5 ⟨rfl, rfl⟩
  rw [HN.out.1]
  go_wp2_with fail
  refine hK.out _ _ (hHeld) (fun hHeld => ?_)
  clear hK K
  (try simp only [Act.put, List.setIfInBounds_toArray, List.set_cons_zero, List.set_cons_succ])
  refine step_one 3 rfl (by kernel_rfl) (fun K hK => ?_)
  go_simp
  refine (readLittle_any _ _ 8 9 _ (by omega) _ (hHeld.2.1.rd 8 8 (by rw [HL.out.2]; omega))).mono ?_
  rintro e w5 ⟨rfl, rfl⟩
  rw [HN.out.2.1]
  go_wp2_with fail
  refine hK.out _ _ (hHeld) (fun hHeld => ?_)
  clear hK K
  (try simp only [Act.put, List.setIfInBounds_toArray, List.set_cons_zero, List.set_cons_succ])
  refine step_one 7 rfl (by kernel_rfl) (fun K hK => ?_)
  go_simp
  (try rw [HN.out.2.2.2])
  refine (HSC.out.1 _).mono ?_
  rintro e w6 ⟨rfl, hb6⟩
  go_wp2_with fail
  refine hK.out _ _ (⟨hHeld.1.trans (hb6.mono hHeld.1.size), hHeld.2.1.below hb6 hHeld.2.1.lt, hHeld.2.2.imp fun c h => ⟨h.1, h.2.below hb6 h.2.lt⟩⟩) (fun hHeld => ?_)
  clear hK K
  (try simp only [Act.put, List.setIfInBounds_toArray, List.set_cons_zero, List.set_cons_succ])
  clear hb6
  refine step_one 8 rfl (by kernel_rfl) (fun K hK => ?_)
  obtain ⟨c9, hc9, hk9⟩ := hHeld.2.2
  refine step_store_blk _ rfl 76 (.tmp 2) (.tmp 17) rfl w.heap.size (lz.map lv) rfl (by show Value.agg cz = _; rw [HSC.out.2]) 76 (c9.map lv) hk9 (cells5 lz HZL.out) (by rw [List.length_map, List.length_map, HZL.out, hc9]) (lv_one _) ?_
  intro w9 hb9 hg9
  have hg9 := hg9
  refine hK.out _ _ (⟨below_blk hHeld.1 hg9 (Nat.le_refl _), hHeld.2.1.grown hg9 (by simp), ⟨lz, HZL.out, hb9⟩⟩) (fun hHeld => ?_)
  clear hK K
  (try simp only [Act.put])
  refine wpAnyH_done (by kernel_rfl) ?_ _
  go_wp2_with fail
  exact bodyPost_ret (results_blk rfl _ _ w.heap.size 76 (lz.map lv) 5 51 rfl hb9 Try.underlying76 (cells5 lz HZL.out)) rfl ⟨by rw [HSC.out.2], hHeld.1⟩
end Go.Proofs.Ytkbefhmgcodpaaa
