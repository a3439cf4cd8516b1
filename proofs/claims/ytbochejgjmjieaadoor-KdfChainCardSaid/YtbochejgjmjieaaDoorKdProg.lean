/-
  The contract of kdf.Expand of the program. No statement is proved here.
-/
import Derived.Test.YtbochejgjmjieaaDoorKdFill
import Derived.Laws.OwnMore
namespace Go.Proofs.YtbochejgjmjieaaDoor
open Go.RowKit

/-- what the slice of keys holds when j of m keys are there -/
def keyL (t0 : List UInt8) (m j : Nat) : List UInt8 := (firstT t0 j).flatten ++ List.replicate (32 * (m - j)) 0
theorem firstT_flat (t0 : List UInt8) : ∀ j, (firstT t0 j).flatten.length = 32 * j
  | 0 => rfl
  | j + 1 => by
    rw [firstT_succ, List.flatten_append, List.length_append, firstT_flat t0 j]
    simp only [List.flatten_cons, List.flatten_nil, List.append_nil, tB_length]
    omega
theorem keyL_length (t0 : List UInt8) (m j : Nat) (h : j ≤ m) : (keyL t0 m j).length = 32 * m := by
  rw [keyL, List.length_append, firstT_flat, List.length_replicate]; omega
theorem keyL_put (t0 : List UInt8) (m j : Nat) : putL (keyL t0 m j) (32 * j) (tB t0 (j + 1)) = keyL t0 m (j + 1) := by
  have e := firstT_flat t0 j
  have h2 : (keyL t0 m j).drop (32 * j + 32) = List.replicate (32 * (m - (j + 1))) 0 := by
    rw [keyL, List.drop_append, e, List.drop_eq_nil_of_le (by omega), List.nil_append, List.drop_replicate]
    congr 1
    omega
  have h1 : (keyL t0 m j).take (32 * j) = (firstT t0 j).flatten := by
    rw [keyL, List.take_append_of_le_length (by omega), List.take_of_length_le (by omega)]
  rw [putL, tB_length, h1, h2, keyL, firstT_succ, List.flatten_append]
  simp
theorem keyL_at (t0 : List UInt8) (m j : Nat) : ((keyL t0 m (j + 1)).drop (32 * j)).take 32 = tB t0 (j + 1) := by
  have e := firstT_flat t0 j
  rw [keyL, firstT_succ, List.flatten_append, List.append_assoc, List.drop_append_of_le_length (by omega), List.drop_eq_nil_of_le (by omega), List.nil_append]
  simp only [List.flatten_cons, List.flatten_nil, List.append_nil]
  rw [List.take_append_of_le_length (by rw [tB_length]; omega), List.take_of_length_le (by rw [tB_length]; omega)]
theorem keyL_none (t0 : List UInt8) (m : Nat) : keyL t0 m 0 = List.replicate (32 * m) 0 := by simp [keyL, firstT]
theorem keyL_all (t0 : List UInt8) (m : Nat) : (keyL t0 m m).map u8v = keysV (firstT t0 m) := by
  rw [keyL, Nat.sub_self, Nat.mul_zero, List.replicate_zero, List.append_nil, keysV, List.map_flatten, List.flatMap_def]
theorem keysV_length (t0 : List UInt8) (m : Nat) : (keysV (firstT t0 m)).length = m * 32 := by
  rw [← keyL_all, List.length_map, keyL_length t0 m m (Nat.le_refl _), Nat.mul_comm]
theorem made_keys (n : Nat) : (madeCells (Value.agg (aeZ 32).toArray).cells (n * 32)).toList = (List.replicate (32 * n) (0 : UInt8)).map u8v := by
  apply List.ext_getElem
  · rw [Array.length_toList, size_madeCells, List.length_map, List.length_replicate, Nat.mul_comm]
  · intro i h1 h2
    have hi : i % 32 < 32 := Nat.mod_lt _ (by omega)
    have this : (aeZ 32).toArray[i % 32]! = Value.int .u8 0 := by
      rw [getElem!_pos _ _ (by simpa [aeZ] using hi)]
      rw [List.getElem_toArray]
      exact List.getElem_replicate _
    simp only [madeCells, Value.cells, Array.getElem_toList, Array.getElem_map, Array.getElem_range, List.getElem_map, List.getElem_replicate]
    rw [show (aeZ 32).toArray.size = 32 from rfl]
    exact this
theorem putL_map' (l xs : List UInt8) (off : Nat) : putL (l.map u8v) off (xs.map u8v) = (putL l off xs).map u8v := by
  rw [← putL_map]; rfl
/-- a store of a whole array into a slice of arrays -/
theorem run_storeVar_at {P : Program} (w : World) (g off : Nat) (t ty : TypeId) (old cs : List Value) (hg : Blk w g t old) (hi : (P.info? ty).map (·.size) = some cs.length) (ho : off + cs.length ≤ old.length) (h1 : ∀ v ∈ cs, v.oneCell' = true) :
    ∃ w', (storeVar ty ⟨g, off, none⟩ (.agg cs.toArray)).run P w = .ok () w' ∧ Blk w' g t (putL old off cs) ∧ w.grownBy w' (some g) := by
  have hst := run_storeCells_at P g off t cs 0 old.toArray w hg (by simpa using ho) h1
  rw [Nat.add_zero] at hst
  refine ⟨w.setRow g (old.toArray.toList.take off ++ cs ++ old.toArray.toList.drop (off + cs.length)).toArray, ?_, ?_, ⟨rfl, rfl, rfl, by simp, fun k _ hk => setRow_other w g k _ (fun e => hk (by simp [e]))⟩⟩
  · cases hq : P.info? ty with
    | none => simp [hq] at hi
    | some i =>
      have hs : cs.length = i.size := by simp [hq] at hi; omega
      simp [storeVar, sizeOf, typeInfo, hq, Value.cells, hs]
      simpa [hs] using hst
  · exact setRow_heap w g old.toArray _ t _ hg
theorem wpList_store_at {P : Program} {w : World} {ops : Array Oper} {rest : List Oper} {o : Oper} {a : Act} {Q : Exit → Act → World → Prop} (hgd : o.guard = none) (ty : TypeId) (x y : Operand) (ho : o.op = .store ty x y)
    (g off : Nat) (cs : List Value) (hx : a.eval x = .pointer (some ⟨g, off, none⟩)) (hy : a.eval y = .agg cs.toArray)
    (t : TypeId) (old : List Value) (hg : Blk w g t old) (hi : (P.info? ty).map (·.size) = some cs.length) (hold : off + cs.length ≤ old.length) (h1 : ∀ v ∈ cs, v.oneCell' = true)
    (h : ∀ w', Blk w' g t (putL old off cs) → w.grownBy w' (some g) → wpList P ops Q rest (a.put o.dst undef) w') : wpList P ops Q (o :: rest) a w := by
  refine wpList_plain hgd fun K hK => ?_
  obtain ⟨w', hrun, h2, h3⟩ := run_storeVar_at (P := P) w g off t ty old cs hg hi hold h1
  unfold Oper.wp execOp
  simp only [ho, hx, hy, Instr.storeAt, Instr.sureAddr, Sem.run_bind, Sem.run_pure, Result.andThen_ok, hrun]
  exact hK _ _ (h w' h2 h3)
theorem key_index (G m j : Nat) (h : j < m) (w : World) : (Instr.indexAt 27 (.slice (some ⟨G, 0, none⟩) m m) (.int .i64 (j : Int))).run Tryd.prog w = .ok (.pointer (some ⟨G, 32 * j, none⟩)) w := by
  obtain ⟨ik, hik, _, his, _⟩ := keyInfo
  have h0 : (0 : Int) ≤ (j : Int) := by omega
  simp [Instr.indexAt, asIntOf, run_underlying Tryd.underlying27, sizeOf, typeInfo, hik, his, h0, h, Go.WideShapes.add_plain, Nat.mul_comm]

set_option maxRecDepth 100000 in
set_option maxHeartbeats 16000000 in
theorem kdExpandC : KdExpandC := by
  intro Ak nk ck key hkc hkm hk3 Ai ni cin inp hic him hni n hn1 hn2 w hlv hrk hri
  by_cases h1 : n < 1
  · have hsb : expandB key inp n = [] := by rw [expandB, if_pos (.inl h1)]
    have s1 : decide (n < 1) = true := by simpa using h1
    rw [hsb]
    have HB := Lib.hid (Below.refl w.heap.size w)
    clear hsb hrk hri hlv
    go_enter Tryd.func9, Tryd.ntmps9
    go_wp2_with fail
    go_ret
    exact ⟨none, 0, rfl, World.ownsRow_nil _ _ _ _, HB.out⟩
  · by_cases h2 : 255 < n
    · have hsb : expandB key inp n = [] := by rw [expandB, if_pos (.inr h2)]
      have s1 : decide (n < 1) = false := by simpa using h1
      have s2 : decide (n > 255) = true := by simpa using h2
      rw [hsb]
      have HB := Lib.hid (Below.refl w.heap.size w)
      clear hsb hrk hri hlv
      go_enter Tryd.func9, Tryd.ntmps9
      go_wp2_with fail
      go_ret
      exact ⟨none, 0, rfl, World.ownsRow_nil _ _ _ _, HB.out⟩
    · obtain ⟨m, rfl⟩ : ∃ m : Nat, n = (m : Int) := ⟨n.toNat, by omega⟩
      have hsb : expandB key inp (m : Int) = firstT (hmacB key inp) m := by rw [expandB, if_neg (by omega)]; rfl
      have hlm : (firstT (hmacB key inp) m).length = m := by simp [firstT]
      rw [hsb, hlm]
      have m1 : 1 ≤ m := by omega
      have m2 : m ≤ 255 := by omega
      have s1 : decide ((m : Int) < 1) = false := by simpa using h1
      have s2 : decide ((m : Int) > 255) = false := by simpa using h2
      have HK := Lib.hid hrk
      have HI := Lib.hid hri
      have HLV := Lib.hid hlv
      have HM := Lib.hid (Mem.nil w)
      have HLT := Lib.hid (hmacB_length key inp)
      obtain ⟨t0, ht0⟩ : ∃ l, hmacB key inp = l := ⟨_, rfl⟩
      rw [ht0] at HLT ⊢
      have HT0 := Lib.hid ht0
      obtain ⟨ct0, hct0⟩ : ∃ c, (t0.map u8v).toArray = c := ⟨_, rfl⟩
      have HCT := Lib.hid hct0
      clear ht0 hct0 hsb hlm hrk hri h1 h2 hn1 hn2 hlv
      obtain ⟨ik, hik, hiz, his, hib⟩ := keyInfo
      have HKI := Lib.hid (And.intro hik (And.intro hiz (And.intro his hib)))
      clear hik hiz his hib
      go_enter Tryd.func9, Tryd.ntmps9
      go_wp2_with fail
      clear s1 s2
      replace HM := Lib.hid (show Mem w [blkE w.heap.size 22 [Value.slice Ai ni cin]] (w.alloc (.cells #[Value.slice Ai ni cin] 22)) from HM.out.alloc rfl 22 #[Value.slice Ai ni cin] [Value.slice Ai ni cin] rfl)
      generalize w.alloc (.cells #[Value.slice Ai ni cin] 22) = w1 at HM ⊢
      refine (kd_hmac_one kdHmacC Ak nk ck key hkc hkm hk3 w.heap.size 22 Ai ni cin inp hic him (by omega) _ (HLV.out.below HM.out.bel) (HM.out.arg HK.out) (HM.out.blk 0 rfl) (HM.out.arg HI.out)).mono ?_
      rintro e w2 ⟨rfl, hb⟩
      rw [HT0.out, HCT.out]
      replace HM := Lib.hid (show Mem w [] w2 from (HM.out.below hb).erase 0)
      clear hb HT0 HK HI
      have HA := Lib.hid (HM.out.alloc rfl 30 #[.int .u8 0, .int .u8 0, .int .u8 0, .int .u8 0, .int .u8 0, .int .u8 0, .int .u8 0, .int .u8 0, .int .u8 0, .int .u8 0, .int .u8 0, .int .u8 0, .int .u8 0, .int .u8 0, .int .u8 0, .int .u8 0, .int .u8 0, .int .u8 0, .int .u8 0, .int .u8 0, .int .u8 0, .int .u8 0, .int .u8 0, .int .u8 0, .int .u8 0, .int .u8 0, .int .u8 0, .int .u8 0, .int .u8 0, .int .u8 0, .int .u8 0, .int .u8 0] (aeZ 32) rfl)
      go_upto_region 4 with (refine wpList_store_blk rfl 30 (.tmp 7) (.tmp 20) rfl w2.heap.size (t0.map u8v) rfl (by show Value.agg ct0 = _; rw [HCT.out]) 30 (aeZ 32) (HA.out.blk 0 rfl) (cells32 t0 HLT.out) (by rw [List.length_map, HLT.out]; rfl) (u8v_one _) ?_; intro w3 hb3 hg3)
      replace HM := Lib.hid (show Mem w [blkE w2.heap.size 30 (t0.map u8v)] w3 from HA.out.put 0 rfl _ hg3 hb3)
      clear hb3 hg3 HA HCT
      generalize w2.heap.size = P0 at HM ⊢
      go_upto_region 5 with (refine wpList_make_full _ rfl (.tmp 21) (.tmp 21) 27 rfl w3.heap.size 30 ik _ 32 Tryd.underlying27 HKI.out.1 HKI.out.2.1 HKI.out.2.2.1 .i64 .i64 (m : Int) (m : Int) m rfl rfl rfl rfl (by rw [HKI.out.2.2.2]; omega) (by unfold maxLen; omega) (Nat.le_refl _) ?_; intro w4 ho4 hg4)
      have hb4 : Blk w4 w3.heap.size 30 ((keyL t0 m 0).map u8v) := by
        rw [keyL_none]
        rw [made_keys] at ho4
        rcases ho4.2 with ⟨_, h0⟩ | ⟨g, cap, cur, hv, _, hg, _, _, hsz, htk⟩
        · omega
        · simp only [Value.slice.injEq] at hv
          obtain ⟨e1, _, e2⟩ := hv
          injection e1 with e1
          injection e1 with e1
          subst e1
          subst e2
          rw [List.take_of_length_le (by rw [Array.length_toList, hsz]; exact Nat.le_refl _)] at htk
          rw [← htk, Blk, Array.toArray_toList]
          exact hg
      have hbel : Below w3.heap.size w3 w4 := (Below.refl _ w3).grown hg4 (Nat.le_refl _) (fun k hk => by cases hk)
      replace HM := Lib.hid (show Mem w [blkE w3.heap.size 30 ((keyL t0 m 0).map u8v), blkE P0 30 (t0.map u8v)] w4 from ⟨⟨hb4.lt, Nat.le_succ _, hb4, HM.out.1.keep (Nat.le_refl _) (fun k _ hk => hbel.block k hk)⟩, HM.out.2.trans (hbel.mono HM.out.size)⟩)
      clear ho4 hg4 hb4 hbel
      generalize w3.heap.size = G at HM ⊢
      go_wp2_with fail
      go_loopw [25, 9] (fun i vp wr => ∃ j : Nat, j ≤ m ∧ i = .int .i64 (j : Int) ∧ Mem w [blkE G 30 ((keyL t0 m j).map u8v), blkE P0 30 (t0.map u8v)] wr ∧ ∃ Al nl, vp = .slice Al nl nl ∧ nl ≤ 32 ∧ Rd wr wr.heap.size Al nl (tB t0 j)) (fun i _ _ => m - (intOf i).toNat)
      case atStart => exact ⟨0, by omega, rfl, HM.out, none, 0, rfl, by omega, Rd.nil _ _ _⟩
      case round =>
        clear HM
        obtain ⟨j, hj, rfl, hmj, Al, nl, rfl, hnl, hrl⟩ := hrel
        have HM := Lib.hid hmj
        have HL := Lib.hid hrl
        clear hmj hrl
        by_cases hlt : j < m
        · have dj : decide ((j : Int) < (m : Int)) = true := by simp; omega
          have hidx := key_index G m j hlt
          obtain ⟨Y, hY⟩ : ∃ y, UInt8.ofNat (j + 1) = y := ⟨_, rfl⟩
          have hYn : Y.toNat = j + 1 := by rw [← hY, UInt8.toNat_ofNat', Nat.mod_eq_of_lt (by omega)]
          have y1 : IntKind.u8.wrap ((j : Int) + 1) = (Y.toNat : Int) := by rw [IntKind.wrap_u8, hYn]; omega
          have y2 : ((j : Int) + 1) % 256 = (Y.toNat : Int) := by rw [hYn]; omega
          have HTN := Lib.hid (show tB t0 (j + 1) = hmacB t0 (tB t0 j ++ [Y]) by rw [tB, hY])
          clear hY hYn
          go_wp2_with fail
          clear y1 y2 dj
          have hM2 : Mem w [blkE (wr.heap.size + 1) 22 [Value.slice Al nl nl, .slice (some ⟨wr.heap.size, 0, none⟩) 1 1], blkE wr.heap.size 5 ([Y].map u8v), blkE G 30 ((keyL t0 m j).map u8v), blkE P0 30 (t0.map u8v)] ((wr.alloc (.cells #[.int .u8 (Y.toNat : Int)] 5)).alloc (.cells #[Value.slice Al nl nl, .slice (some ⟨wr.heap.size, 0, none⟩) 1 1] 22)) := (HM.out.alloc rfl 5 _ ([Y].map u8v) rfl).alloc (by simp) 22 _ _ rfl
          have HL2 := Lib.hid ((HL.out.below (((Below.refl wr.heap.size wr).alloc (Nat.le_refl _) (.cells #[.int .u8 (Y.toNat : Int)] 5)).alloc (by simp) (.cells #[Value.slice Al nl nl, .slice (some ⟨wr.heap.size, 0, none⟩) 1 1] 22))).mono (by simp; omega : wr.heap.size ≤ ((wr.alloc (.cells #[.int .u8 (Y.toNat : Int)] 5)).alloc (.cells #[Value.slice Al nl nl, .slice (some ⟨wr.heap.size, 0, none⟩) 1 1] 22)).heap.size))
          replace HM := Lib.hid hM2
          clear hM2 HL
          generalize ((wr.alloc (.cells #[.int .u8 (Y.toNat : Int)] 5)).alloc (.cells #[Value.slice Al nl nl, .slice (some ⟨wr.heap.size, 0, none⟩) 1 1] 22)) = wa at HM HL2 ⊢
          obtain ⟨tn, htn⟩ : ∃ l, tB t0 (j + 1) = l := ⟨_, rfl⟩
          have HLN := Lib.hid (show tn.length = 32 by rw [← htn]; exact tB_length t0 j)
          have HPUT := Lib.hid (show putL ((keyL t0 m j).map u8v) (32 * j) (tn.map u8v) = (keyL t0 m (j + 1)).map u8v by rw [← htn, putL_map', keyL_put])
          have HTE := Lib.hid htn
          rw [htn] at HTN
          clear htn
          obtain ⟨cn, hcn⟩ : ∃ c, (tn.map u8v).toArray = c := ⟨_, rfl⟩
          have HCN := Lib.hid hcn
          clear hcn
          refine (kd_hmac_two kdHmacC (some ⟨P0, 0, none⟩) 32 32 t0 (Nat.le_refl _) (by unfold maxLen; omega) (by omega) (wr.heap.size + 1) 22 Al nl nl (tB t0 j) (Nat.le_refl _) (by unfold maxLen; omega) (by omega) (some ⟨wr.heap.size, 0, none⟩) 1 1 [Y] (Nat.le_refl _) (by unfold maxLen; omega) (by omega) _ (HLV.out.below HM.out.bel) (blk_all (HM.out.blk 3 rfl) HLT.out) (HM.out.blk 0 rfl) HL2.out (blk_all (HM.out.blk 1 rfl) rfl)).mono ?_
          rintro e wb ⟨rfl, hb⟩
          rw [← HTN.out, HCN.out]
          replace HM := Lib.hid (show Mem w [blkE G 30 ((keyL t0 m j).map u8v), blkE P0 30 (t0.map u8v)] wb from ((HM.out.below hb).erase 0).erase 0)
          clear hb HL2 HTN
          go_upto_region 10 with (refine wpList_store_at rfl 30 (.tmp 38) (.tmp 37) rfl G (32 * j) (tn.map u8v) rfl (by show Value.agg cn = _; rw [HCN.out]) 30 ((keyL t0 m j).map u8v) (HM.out.blk 0 rfl) (cells32 tn HLN.out) (by rw [List.length_map, List.length_map, HLN.out, keyL_length t0 m j (by omega)]; omega) (u8v_one _) ?_; intro w5 hb5 hg5; rw [HPUT.out] at hb5)
          replace HM := Lib.hid (show Mem w [blkE G 30 ((keyL t0 m (j + 1)).map u8v), blkE P0 30 (t0.map u8v)] w5 from HM.out.put 0 rfl _ hg5 hb5)
          clear hb5 hg5 HPUT HCN
          have HF := Lib.hid (show Rd w5 w5.heap.size (some ⟨G, 32 * j, none⟩) 32 (tB t0 (j + 1)) from by
            have h := (HM.out.blk 0 rfl).rd (32 * j) 32 (by rw [keyL_length t0 m (j + 1) (by omega)]; omega)
            rw [keyL_at t0 m j] at h
            exact h.mono (HM.out.blk 0 rfl).lt)
          go_wp2
          go_roundw
          case rel => exact ⟨j + 1, by omega, by go_num, HM.out, _, 32, rfl, by omega, HF.out⟩
          case measure => simp [intOf]; omega
        · obtain rfl : j = m := by omega
          have dj : decide ((j : Int) < (j : Int)) = false := by simp
          have hlow := HM.out.1.low 0 _ rfl
          have hlow : w.heap.size ≤ G := hlow
          have hbk := HM.out.blk 0 rfl
          rw [keyL_all] at hbk
          have HF := Lib.hid (show wr.ownsRow w.heap.size 30 32 (.slice (some ⟨G, 0, none⟩) j j) j (keysV (firstT t0 j)) ∧ Below w.heap.size w wr from ⟨⟨keysV_length t0 j, .inr ⟨G, j, _, rfl, hlow, hbk, Nat.le_refl _, by unfold maxLen; omega, by simpa using keysV_length t0 j, by rw [List.take_of_length_le (by simpa using Nat.le_of_eq (keysV_length t0 j))]⟩⟩, HM.out.bel⟩)
          clear HM HL hbk
          go_wp2
          go_ret
          exact ⟨_, _, rfl, HF.out.1, HF.out.2⟩
end Go.Proofs.YtbochejgjmjieaaDoor
