/-
  The contract of chacha.Xor: the data, combined with the blocks for counter, counter + 1, ..
-/
import Derived.Test.YtkbefhmgcodpaaaChBlock
namespace Go.Proofs.Ytkbefhmgcodpaaa
open Go.RowKit

/-- the first j bytes of the result, then zeros -/
def xorRow (x : List UInt8) (n j : Nat) : List UInt8 := x.take j ++ List.replicate (n - j) 0
theorem xorRow_zero (x : List UInt8) (n : Nat) : xorRow x n 0 = List.replicate n 0 := by simp [xorRow]
theorem xorRow_end (x : List UInt8) (n j : Nat) (h : x.length = n) (hj : n ≤ j) : xorRow x n j = x := by
  simp [xorRow, List.take_of_length_le (show x.length ≤ j by omega), show n - j = 0 by omega]
theorem xorRow_set (x : List UInt8) (n j : Nat) (h : x.length = n) (hj : j < n) : (xorRow x n j).set j (x[j]'(by omega)) = xorRow x n (j + 1) := by
  unfold xorRow
  have hl : (x.take j).length = j := by rw [List.length_take]; omega
  rw [List.set_append_right _ _ (by omega), hl, Nat.sub_self, show n - j = (n - (j + 1)) + 1 by omega, List.replicate_succ, List.set_cons_zero, List.take_succ_eq_append_getElem (by omega), List.append_assoc]
  rfl
theorem xor_byte (k : List UInt8) (c : UInt32) (nn l : List UInt8) (q j : Nat) (h1 : 64 * q ≤ j) (h2 : j < 64 * q + 64) (hj : j < l.length) (bl : List UInt8) (hbl : bl = blockL k (c + UInt32.ofNat q) nn) (hlen : j - 64 * q < bl.length) :
    (xorL k c nn l)[j]'(by rw [xorL_length]; exact hj) = l[j] ^^^ bl[j - 64 * q] := by
  rw [xorL_get _ _ _ _ _ hj]
  have h : streamB k c nn j = bl[j - 64 * q] := by
    unfold streamB
    rw [show j / 64 = q by omega, show j % 64 = j - 64 * q by omega, ← hbl]
    simp [List.getD, hlen]
  rw [h]
theorem u8_xor_val (a b : UInt8) : bits BinOp.xor IntKind.u8 (a.toNat : Int) (b.toNat : Int) = ((a ^^^ b).toNat : Int) := by
  rw [UInt8.toNat_xor, u8_xor_nat _ _ a.toNat_lt b.toNat_lt]
theorem blockL_length (k : List UInt8) (c : UInt32) (n : List UInt8) : (blockL k c n).length = 64 := by
  obtain ⟨ws, hws⟩ : ∃ ws, (coreW 10 (stateW k c n)).zipWith (· + ·) (stateW k c n) = ws := ⟨_, rfl⟩
  have h : ws.length = 16 := by rw [← hws, List.length_zipWith, coreW_length, stateW_length]; rfl
  have e : blockL k c n = bytesW ws := by rw [← hws]; unfold blockL bytesW; rfl
  rw [e, bytesW_length, h]

set_option maxRecDepth 100000 in
set_option maxHeartbeats 4000000 in
theorem xor_any (k nn : List UInt8) (hk : k.length = 32) (hn : nn.length = 12) (c : UInt32) (B : Nat) (D : Option Addr) (n cap : Nat) (l : List UInt8) (hn6 : n ≤ 1000000) (w : World) (hB : B ≤ w.heap.size) (hr : Rd w B D n l) :
    Calls Try.prog 32 #[.agg (k.map u8v).toArray, .int .u32 (c.toNat : Int), .agg (nn.map u8v).toArray, .slice D n cap] w fun e w' => ∃ G, e = .returned (.slice (some ⟨G, 0, none⟩) n n) ∧ w'.ownsRow w.heap.size 5 1 (.slice (some ⟨G, 0, none⟩) n n) n ((xorL k c nn l).map u8v) ∧ Below w.heap.size w w' := by
  obtain ⟨i0, hi, hz0, hz1, hz2⟩ := info_parts Try.info5
  have BC := fun (c' : UInt32) (w' : World) => block_any k nn hk hn c' w'
  obtain ⟨ck, hck⟩ : ∃ ck, (k.map u8v).toArray = ck := ⟨_, rfl⟩
  obtain ⟨cn, hcn⟩ : ∃ cn, (nn.map u8v).toArray = cn := ⟨_, rfl⟩
  rw [hck, hcn] at BC
  rw [hck, hcn]
  have HK0 := Lib.hid (show Blk (w.alloc (.cells ck 23)) w.heap.size 23 (k.map u8v) by rw [← hck]; exact Blk.new w _ _)
  have HN0 := Lib.hid (show Blk ((w.alloc (.cells ck 23)).alloc (.cells cn 39)) (w.heap.size + 1) 39 (nn.map u8v) by rw [← hcn]; exact Blk.new' _ (by simp) _ _)
  have HCK := Lib.hid hck
  have HCN := Lib.hid hcn
  have HBC := Lib.hid BC
  have HK := Lib.hid hk
  have HN := Lib.hid hn
  have HR := Lib.hid hr
  have HLN := Lib.hid hr.1
  clear hk hn hck hcn BC hr
  go_enter Try.func32, Try.ntmps32
  go_upto_region 1 with fail
  have hk1 := HK0.out.alloc (.cells cn 39)
  have hn1 := HN0.out
  have hbel1 : Below w.heap.size w ((w.alloc (.cells ck 23)).alloc (.cells cn 39)) := ((Below.refl _ _).alloc (Nat.le_refl _) _).alloc (by simp) _
  have hs1 : ((w.alloc (.cells ck 23)).alloc (.cells cn 39)).heap.size = w.heap.size + 2 := by simp
  clear HK0 HN0
  generalize (w.alloc (.cells ck 23)).alloc (.cells cn 39) = w1 at hk1 hn1 hbel1 hs1 ⊢
  have H1 := Lib.hid (And.intro hk1 (And.intro hn1 (And.intro hbel1 hs1)))
  clear hk1 hn1 hbel1 hs1
  go_upto_region 2 with (refine wpList_make_full _ rfl (.tmp 14) (.tmp 14) 27 rfl w1.heap.size 5 i0 (.int .u8 0) 1 Try.underlying27 hi hz0 hz1 .i64 .i64 n n n rfl rfl rfl rfl (by rw [hz2]; omega) (by unfold maxLen; omega) (Nat.le_refl _) ?_; intro w2 hown2 hg2)
  have EX := Lib.hid (show madeCells (Value.int IntKind.u8 0).cells (n * 1) = madeCells (Value.int IntKind.u8 0).cells (n * 1) from rfl)
  obtain ⟨X, hX⟩ : ∃ X, xorL k c nn l = X := ⟨_, rfl⟩
  have HXL := Lib.hid (show X.length = n by rw [← hX, xorL_length]; exact HLN.out)
  have HX := Lib.hid hX
  have H2 := Lib.hid (show Blk w2 w.heap.size 23 (k.map u8v) ∧ Blk w2 (w.heap.size + 1) 39 (nn.map u8v) ∧ w2.ownsRow (w.heap.size + 2) 5 1 (.slice (some ⟨w.heap.size + 2, 0, none⟩) n n) n ((xorRow X n 0).map u8v) ∧ Below w.heap.size w w2 by
    have hs := H1.out.2.2.2
    refine ⟨H1.out.1.grown hg2 (by simp), H1.out.2.1.grown hg2 (by simp), ?_, Below.grown H1.out.2.2.1 hg2 H1.out.2.2.1.size (by simp)⟩
    rw [show (Value.int IntKind.u8 0).cells = #[.int .u8 0] from rfl, toList_madeCells_one, Nat.mul_one, hs] at hown2
    rw [xorRow_zero, List.map_replicate]
    exact hown2)
  clear hX EX hown2 hg2
  rw [H1.out.2.2.2]
  clear H1
  go_wp2_with fail
  go_loopw [1, 10] (fun cc i wr => ∃ (q b : Nat) (cq : UInt32), Hid (b = 64 * q ∧ c + UInt32.ofNat q = cq) ∧ b < n + 64 ∧ i = .int .i64 (b : Int) ∧ cc = .int .u32 (cq.toNat : Int) ∧ Blk wr w.heap.size 23 (k.map u8v) ∧ Blk wr (w.heap.size + 1) 39 (nn.map u8v) ∧ wr.ownsRow (w.heap.size + 2) 5 1 (.slice (some ⟨w.heap.size + 2, 0, none⟩) n n) n ((xorRow X n (min b n)).map u8v) ∧ Below w.heap.size w wr) (fun _ i _ => n + 64 - (intOf i).toNat)
  case atStart => exact ⟨0, 0, c, Lib.hid ⟨rfl, by simp⟩, by omega, rfl, rfl, H2.out.1, H2.out.2.1, by rw [Nat.min_eq_left (by omega)]; exact H2.out.2.2.1, H2.out.2.2.2⟩
  case round =>
    clear H2
    obtain ⟨q, b, cq, HBQ, hbn, rfl, rfl, hk1, hn1, hown, hbel⟩ := hrel
    by_cases hlt : b < n
    · have d16 : decide ((b : Int) < (n : Int)) = true := by simp; omega
      rw [Nat.min_eq_left (by omega)] at hown
      have hks := hk1.lt
      have hns := hn1.lt
      have HO := Lib.hid hown
      have HBL := Lib.hid hbel
      clear hown hbel
      obtain ⟨bl, hbl⟩ : ∃ bl, blockL k cq nn = bl := ⟨_, rfl⟩
      have HB := HBC.out cq
      rw [hbl] at HB
      have H64 := Lib.hid (show bl.length = 64 by rw [← hbl]; exact blockL_length _ _ _)
      have HBB := Lib.hid hbl
      obtain ⟨sb, hsb⟩ : ∃ sb, (bl.map u8v).toArray = sb := ⟨_, rfl⟩
      rw [hsb] at HB
      have HSB := Lib.hid hsb
      have HCB := Lib.hid HB
      clear HB hbl hsb
      go_wp2_with (first | (refine wpList_load_blk rfl 23 (.tmp 4) rfl w.heap.size rfl 23 (k.map u8v) hk1 32 5 Try.underlying23 (cells32 k HK.out) ?_; rw [HCK.out]) | (refine wpList_load_blk rfl 39 (.tmp 6) rfl (w.heap.size + 1) rfl 39 (nn.map u8v) hn1 12 5 Try.underlying39 (cells12 nn HN.out) ?_; rw [HCN.out]))
      clear d16
      refine (HCB.out _).mono ?_
      rintro e w3 ⟨rfl, hb3⟩
      have H3 := Lib.hid (show Blk w3 w.heap.size 23 (k.map u8v) ∧ Blk w3 (w.heap.size + 1) 39 (nn.map u8v) ∧ w3.ownsRow (w.heap.size + 2) 5 1 (.slice (some ⟨w.heap.size + 2, 0, none⟩) n n) n ((xorRow X n b).map u8v) ∧ Below w.heap.size w w3 from ⟨hk1.below hb3 hks, hn1.below hb3 hns, own_below HO.out hb3, HBL.out.trans (hb3.mono HBL.out.size)⟩)
      clear hk1 hn1 HO HBL hb3 hks hns
      go_upto_region 6 with (refine wpList_store_blk rfl 63 (.tmp 11) (.tmp 25) rfl w3.heap.size (bl.map u8v) rfl (by rw [HSB.out]; rfl) 63 z64 (Blk.new w3 63 z64) (cells64 bl H64.out) (by rw [List.length_map, H64.out]; rfl) (u8v_one _) ?_; intro w4 hb4 hg4)
      simp only [Act.put]
      have hs3 : w.heap.size + 2 < w3.heap.size ∨ n = 0 := by
        rcases H3.out.2.2.1.2 with ⟨h, _⟩ | ⟨g, cap', cur, h, _⟩
        · cases h
        · exact .inl ((H3.out.2.2.1.lt _ rfl).2)
      have hs3 : w.heap.size + 2 < w3.heap.size := by omega
      have H4 := Lib.hid (show Blk w4 w3.heap.size 63 (bl.map u8v) ∧ Blk w4 w.heap.size 23 (k.map u8v) ∧ Blk w4 (w.heap.size + 1) 39 (nn.map u8v) ∧ w4.ownsRow (w.heap.size + 2) 5 1 (.slice (some ⟨w.heap.size + 2, 0, none⟩) n n) n ((xorRow X n b).map u8v) ∧ Below w.heap.size w w4 from ⟨hb4, (H3.out.1.alloc _).grown hg4 (by simp; omega), (H3.out.2.1.alloc _).grown hg4 (by simp; omega), (H3.out.2.2.1.alloc _).kept hg4 (.inr (by simp [Value.ownBlock]; omega)), Below.grown (H3.out.2.2.2.alloc H3.out.2.2.2.size (.cells z64.toArray 63)) hg4 (by simp; omega) (by intro k hk; injection hk with hk; omega)⟩)
      clear hb4 hg4 H3
      have HS3 := Lib.hid hs3
      clear hs3
      generalize w3.heap.size = P at H4 HS3 ⊢
      go_wp2_with fail
      obtain ⟨m, hm⟩ : ∃ m, m = min (b + 64) n := ⟨_, rfl⟩
      have hmv : (if (n : Int) < (b : Int) + 64 then (n : Int) else (b : Int) + 64) = (m : Int) := by
        split <;> omega
      have hbm : b ≤ m := by omega
      have hmn : m ≤ n := by omega
      have hmb : m ≤ b + 64 := by omega
      have HM := Lib.hid hm
      clear hm
      go_loopw [12] (fun i wr => ∃ j : Nat, b ≤ j ∧ j ≤ m ∧ i = .int .i64 (j : Int) ∧ Blk wr P 63 (bl.map u8v) ∧ Blk wr w.heap.size 23 (k.map u8v) ∧ Blk wr (w.heap.size + 1) 39 (nn.map u8v) ∧ wr.ownsRow (w.heap.size + 2) 5 1 (.slice (some ⟨w.heap.size + 2, 0, none⟩) n n) n ((xorRow X n j).map u8v) ∧ Below w.heap.size w wr) (fun i _ => n - (intOf i).toNat)
      case atStart => exact ⟨b, Nat.le_refl _, by omega, rfl, H4.out.1, H4.out.2.1, H4.out.2.2.1, H4.out.2.2.2.1, H4.out.2.2.2.2⟩
      case round =>
        clear H4
        obtain ⟨j, hbj, hjm, rfl, hp, hk1, hn1, hown, hbel⟩ := hrel
        have HH := Lib.hid (And.intro hp (And.intro hk1 (And.intro hn1 (And.intro hown hbel))))
        clear hp hk1 hn1 hown hbel
        by_cases hjl : j < m
        · have dj : decide ((j : Int) < (m : Int)) = true := by simp; omega
          obtain ⟨t, ht⟩ : ∃ t, j - b = t := ⟨_, rfl⟩
          have hsb : (j : Int) - (b : Int) = (t : Int) := by omega
          have ht64 : t < 64 := by omega
          have hjn : j < n := by omega
          have hjl' : j < l.length := by rw [HLN.out]; omega
          have htl : t < bl.length := by rw [H64.out]; omega
          obtain ⟨db, off, rfl, hdb, hc⟩ := (HR.out.below (HH.out.2.2.2.2.mono hB)).at_ (by omega)
          have fx := hc j hjl'
          clear hc
          have fy := HH.out.1.cell t
          rw [map_u8v_getElem? bl t htl] at fy
          have hjX : j < X.length := by rw [HXL.out]; omega
          have hX : bits BinOp.xor IntKind.u8 (l[j].toNat : Int) (bl[t].toNat : Int) = (X[j].toNat : Int) := by
            rw [u8_xor_val]
            have hq := HBQ.out.1
            have e := xor_byte k c nn l q j (by omega) (by omega) hjl' bl (by rw [HBQ.out.2, HBB.out]) (by omega)
            have e2 : (xorL k c nn l)[j]'(by rw [xorL_length]; exact hjl') = X[j] := by simp only [HX.out]
            rw [e2] at e
            rw [e]
            simp only [← hq, ht]
          generalize l[j] = xb at fx hX
          generalize bl[t] = yb at fy hX
          obtain ⟨zb, hzb⟩ : ∃ zb, X[j] = zb := ⟨_, rfl⟩
          rw [hzb] at hX
          have hfz := HH.out.2.2.2.1.frozenAt j
          have hcl : ∃ u, wr.cell? ⟨w.heap.size + 2, j, none⟩ = some u := by
            rw [HH.out.2.2.2.1.cellAt j (by omega)]
            exact ⟨_, List.getElem?_eq_getElem (by rw [HH.out.2.2.2.1.1]; omega)⟩
          obtain ⟨u, hcl⟩ := hcl
          have HZ := Lib.hid hzb
          clear hzb ht
          go_upto_region 9 with fail
          go_region
          have hh := (HH.out.2.2.2.1.stored j (u8v zb)).1
          rw [← List.map_set, ← HZ.out, xorRow_set X n j HXL.out hjn, HZ.out] at hh
          have HN9 := Lib.hid (And.intro (HH.out.1.far (p := ⟨w.heap.size + 2, j, none⟩) (by have := HS3.out; simp; omega) (.int .u8 (zb.toNat : Int))) (And.intro (HH.out.2.1.far (p := ⟨w.heap.size + 2, j, none⟩) (by simp) (.int .u8 (zb.toNat : Int))) (And.intro (HH.out.2.2.1.far (p := ⟨w.heap.size + 2, j, none⟩) (by simp) (.int .u8 (zb.toNat : Int))) (And.intro hh (HH.out.2.2.2.2.setCell (p := ⟨w.heap.size + 2, j, none⟩) (by dsimp only; omega) (.int .u8 (zb.toNat : Int)))))))
          clear hh HH fx fy hX hfz hcl HZ dj hsb
          go_wp2
          go_roundw
          case rel => exact ⟨j + 1, by omega, by omega, by go_num, HN9.out.1.drew, HN9.out.2.1.drew, HN9.out.2.2.1.drew, HN9.out.2.2.2.1.drew, HN9.out.2.2.2.2.drew⟩
          case measure => simp [intOf]; omega
        · obtain rfl : j = m := by omega
          obtain ⟨c1, hc1⟩ : ∃ c1, cq + 1 = c1 := ⟨_, rfl⟩
          have hcv : ((cq.toNat : Int) + 1) % 4294967296 = (c1.toNat : Int) := by
            rw [← hc1, UInt32.toNat_add]
            rfl
          have HC1 := Lib.hid hc1
          have HCV := Lib.hid hcv
          clear hcv
          have dj : decide ((j : Int) < (j : Int)) = false := by simp
          clear hc1
          go_wp2
          go_roundw
          case rel => exact ⟨q + 1, b + 64, c1, Lib.hid ⟨by have := HBQ.out.1; omega, by rw [← HC1.out, ← HBQ.out.2, UInt32.add_assoc, UInt32.ofNat_add]; rfl⟩, by omega, by go_num, congrArg (Value.int .u32) HCV.out, HH.out.2.1, HH.out.2.2.1, by rw [← HM.out]; exact HH.out.2.2.2.1, HH.out.2.2.2.2⟩
          case measure => simp [intOf]; omega
    · have hfin := hown
      rw [Nat.min_eq_right (by omega), xorRow_end X n n HXL.out (Nat.le_refl _)] at hfin
      have HF := Lib.hid (And.intro hfin hbel)
      clear hfin hown hbel hk1 hn1
      have d16 : decide ((b : Int) < (n : Int)) = false := by simp; omega
      go_wp2
      go_ret
      exact ⟨w.heap.size + 2, rfl, by rw [HX.out]; exact own_base HF.out.1 (by omega), HF.out.2⟩
end Go.Proofs.Ytkbefhmgcodpaaa
