/-
  The contract of the reference's Xor: byte by byte with the block of the place.
-/
import Derived.Test.YtafkedeelngnnaaChRefBlock
namespace Go.Proofs.Ytafkedeelngnnaa
open Go.RowKit

set_option maxRecDepth 100000 in
set_option maxHeartbeats 4000000 in
theorem refXor_own (k nn : List UInt8) (hk : k.length = 32) (hn : nn.length = 12) (c : UInt32) (D : Option Addr) (n cap : Nat) (l : List UInt8) (hn6 : n ≤ 1000000) (w : World) (hr : Rd w w.heap.size D n l) :
    Calls Try.prog 14 #[.agg (k.map u8v).toArray, .int .u32 (c.toNat : Int), .agg (nn.map u8v).toArray, .slice D n cap] w fun e w' => ∃ A c', e = .returned (.slice A n c') ∧ w'.ownsRow w.heap.size 5 1 (.slice A n c') n ((xorL k c nn l).map u8v) ∧ Below w.heap.size w w' := by
  obtain ⟨i0, hi, hz0, hz1, hz2⟩ := info_parts Try.info5
  have BC := fun (c' : UInt32) (w' : World) => refBlock_any k nn hk hn c' w'
  obtain ⟨ck, hck⟩ : ∃ ck, (k.map u8v).toArray = ck := ⟨_, rfl⟩
  obtain ⟨cn, hcn⟩ : ∃ cn, (nn.map u8v).toArray = cn := ⟨_, rfl⟩
  rw [hck, hcn] at BC
  rw [hck, hcn]
  have HK0 := Lib.hid (show Blk (w.alloc (.cells ck 23)) w.heap.size 23 (k.map u8v) by rw [← hck]; exact Blk.new w _ _)
  have HN0 := Lib.hid (show Blk ((w.alloc (.cells ck 23)).alloc (.cells cn 25)) (w.heap.size + 1) 25 (nn.map u8v) by rw [← hcn]; exact Blk.new' _ (by simp) _ _)
  have HCK := Lib.hid hck
  have HCN := Lib.hid hcn
  have HBC := Lib.hid BC
  have HK := Lib.hid hk
  have HN := Lib.hid hn
  have HR := Lib.hid hr
  have HLN := Lib.hid hr.1
  clear hk hn hck hcn BC hr
  obtain ⟨X, hX⟩ : ∃ X, xorL k c nn l = X := ⟨_, rfl⟩
  have HXL := Lib.hid (show X.length = n by rw [← hX, xorL_length]; exact HLN.out)
  have HX := Lib.hid hX
  clear hX
  go_enter Try.func14, Try.ntmps14
  go_upto_region 3 with fail
  have hk1 := (HK0.out.alloc (.cells cn 25)).alloc (.cells z64.toArray 48)
  have hn1 := HN0.out.alloc (.cells z64.toArray 48)
  have hzz1 : Blk (((w.alloc (.cells ck 23)).alloc (.cells cn 25)).alloc (.cells z64.toArray 48)) (w.heap.size + 2) 48 z64 := Blk.new' _ (by simp) _ _
  have hbel1 : Below w.heap.size w (((w.alloc (.cells ck 23)).alloc (.cells cn 25)).alloc (.cells z64.toArray 48)) := (((Below.refl _ _).alloc (Nat.le_refl _) _).alloc (by simp) _).alloc (by simp; omega) _
  have hs1 : w.heap.size + 3 ≤ (((w.alloc (.cells ck 23)).alloc (.cells cn 25)).alloc (.cells z64.toArray 48)).heap.size := by simp
  clear HK0 HN0
  have e64 : z64.toArray = #[.int .u8 0, .int .u8 0, .int .u8 0, .int .u8 0, .int .u8 0, .int .u8 0, .int .u8 0, .int .u8 0, .int .u8 0, .int .u8 0, .int .u8 0, .int .u8 0, .int .u8 0, .int .u8 0, .int .u8 0, .int .u8 0, .int .u8 0, .int .u8 0, .int .u8 0, .int .u8 0, .int .u8 0, .int .u8 0, .int .u8 0, .int .u8 0, .int .u8 0, .int .u8 0, .int .u8 0, .int .u8 0, .int .u8 0, .int .u8 0, .int .u8 0, .int .u8 0, .int .u8 0, .int .u8 0, .int .u8 0, .int .u8 0, .int .u8 0, .int .u8 0, .int .u8 0, .int .u8 0, .int .u8 0, .int .u8 0, .int .u8 0, .int .u8 0, .int .u8 0, .int .u8 0, .int .u8 0, .int .u8 0, .int .u8 0, .int .u8 0, .int .u8 0, .int .u8 0, .int .u8 0, .int .u8 0, .int .u8 0, .int .u8 0, .int .u8 0, .int .u8 0, .int .u8 0, .int .u8 0, .int .u8 0, .int .u8 0, .int .u8 0, .int .u8 0] := rfl
  rw [e64] at hk1 hn1 hzz1 hbel1 hs1
  generalize (((w.alloc (.cells ck 23)).alloc (.cells cn 25)).alloc (.cells #[.int .u8 0, .int .u8 0, .int .u8 0, .int .u8 0, .int .u8 0, .int .u8 0, .int .u8 0, .int .u8 0, .int .u8 0, .int .u8 0, .int .u8 0, .int .u8 0, .int .u8 0, .int .u8 0, .int .u8 0, .int .u8 0, .int .u8 0, .int .u8 0, .int .u8 0, .int .u8 0, .int .u8 0, .int .u8 0, .int .u8 0, .int .u8 0, .int .u8 0, .int .u8 0, .int .u8 0, .int .u8 0, .int .u8 0, .int .u8 0, .int .u8 0, .int .u8 0, .int .u8 0, .int .u8 0, .int .u8 0, .int .u8 0, .int .u8 0, .int .u8 0, .int .u8 0, .int .u8 0, .int .u8 0, .int .u8 0, .int .u8 0, .int .u8 0, .int .u8 0, .int .u8 0, .int .u8 0, .int .u8 0, .int .u8 0, .int .u8 0, .int .u8 0, .int .u8 0, .int .u8 0, .int .u8 0, .int .u8 0, .int .u8 0, .int .u8 0, .int .u8 0, .int .u8 0, .int .u8 0, .int .u8 0, .int .u8 0, .int .u8 0, .int .u8 0] 48)) = w1 at hk1 hn1 hzz1 hbel1 hs1 ⊢
  clear e64
  rw [show w.heap.size + 1 + 1 = w.heap.size + 2 from rfl]
  have H1 := Lib.hid (And.intro hk1 (And.intro hn1 (And.intro hzz1 (And.intro hbel1 hs1))))
  clear hk1 hn1 hzz1 hbel1 hs1
  go_wp2_with fail
  go_loopw [9, 15, 11, 12] (fun v i _ _ wr => ∃ (j : Nat) (bl : List UInt8), j ≤ n ∧ i = .int .i64 (j : Int) ∧ bl.length = 64 ∧ (j % 64 ≠ 0 → bl = blockL k (c + UInt32.ofNat (j / 64)) nn) ∧ Blk wr w.heap.size 23 (k.map u8v) ∧ Blk wr (w.heap.size + 1) 25 (nn.map u8v) ∧ Blk wr (w.heap.size + 2) 48 (bl.map u8v) ∧ wr.ownsRow (w.heap.size + 3) 5 1 v j ((X.take j).map u8v) ∧ Below w.heap.size w wr ∧ w.heap.size + 3 ≤ wr.heap.size) (fun _ i _ _ _ => n - (intOf i).toNat)
  case atStart => exact ⟨0, List.replicate 64 0, by omega, rfl, by simp, (fun h => absurd rfl h), H1.out.1, H1.out.2.1, (by have h := H1.out.2.2.1; rwa [show z64 = (List.replicate 64 (0 : UInt8)).map u8v by rw [List.map_replicate]; rfl] at h), World.ownsRow_nil _ _ _ _, H1.out.2.2.2.1, H1.out.2.2.2.2⟩
  case round =>
    clear H1
    obtain ⟨j, bl, hj, rfl, hb64, hbb, hrest⟩ := hrel
    have HH := Lib.hid hrest
    have HBB := Lib.hid hbb
    have H64 := Lib.hid hb64
    clear hrest hbb hb64
    by_cases hlt : j < n
    · have dj : decide ((j : Int) < (n : Int)) = true := by simp; omega
      have hjl : j < l.length := by rw [HLN.out]; omega
      obtain ⟨db, off, rfl, hdb, hc⟩ := (HR.out.below HH.out.2.2.2.2.1).at_ (by omega)
      have fx := hc j hjl
      clear hc
      have hjX : j < X.length := by rw [HXL.out]; omega
      obtain ⟨t, ht⟩ : ∃ t, j % 64 = t := ⟨_, rfl⟩
      have ht64 : t < 64 := by omega
      have hr1 : (j : Int).tmod 64 = (t : Int) := by
        rw [Int.tmod_eq_emod_of_nonneg (by omega)]
        omega
      have hXe : ∀ bl : List UInt8, bl = blockL k (c + UInt32.ofNat (j / 64)) nn → (h : t < bl.length) → X[j] = l[j] ^^^ bl[t] := fun bl hbl h => by
        have e := xor_byte k c nn l (j / 64) j (by omega) (by omega) hjl bl hbl (by omega)
        have e2 : (xorL k c nn l)[j]'(by rw [xorL_length]; exact hjl) = X[j] := by simp only [HX.out]
        rw [e2] at e
        rw [e]
        congr 2
        omega
      generalize l[j] = xb at fx hXe
      have HXE := Lib.hid hXe
      have HT := Lib.hid ht
      clear hXe ht
      by_cases h0 : t = 0
      · subst h0
        replace hr1 : (j : Int).tmod 64 = 0 := by rw [hr1]; rfl
        obtain ⟨q, hq⟩ : ∃ q, j / 64 = q := ⟨_, rfl⟩
        have hq1 : (j : Int).tdiv 64 = (q : Int) := by
          rw [Int.tdiv_eq_ediv_of_nonneg (by omega)]
          omega
        have hqm : (q : Int) % 4294967296 = (q : Int) := by omega
        obtain ⟨cq, hcq⟩ : ∃ cq, c + UInt32.ofNat q = cq := ⟨_, rfl⟩
        have hcv : ((c.toNat : Int) + (q : Int)) % 4294967296 = (cq.toNat : Int) := by
          rw [← hcq, UInt32.toNat_add, UInt32.toNat_ofNat', Nat.mod_eq_of_lt (show q < 2 ^ 32 by omega)]
          omega
        obtain ⟨b2, hb2⟩ : ∃ b2, blockL k cq nn = b2 := ⟨_, rfl⟩
        have HCB := HBC.out cq
        rw [hb2] at HCB
        have H642 := Lib.hid (show b2.length = 64 by rw [← hb2]; exact blockL_length _ _ _)
        have HB2 := Lib.hid (show b2 = blockL k (c + UInt32.ofNat (j / 64)) nn by rw [hq, hcq, hb2])
        obtain ⟨sb, hsb⟩ : ∃ sb, (b2.map u8v).toArray = sb := ⟨_, rfl⟩
        rw [hsb] at HCB
        replace HCB := Lib.hid HCB
        have HSB := Lib.hid hsb
        clear hsb hb2 hcq hq
        go_upto_region 7 with fail
        go_wp2_with (first | (refine wpList_load_blk rfl 23 (.tmp 4) rfl w.heap.size rfl 23 (k.map u8v) HH.out.1 32 5 Try.underlying23 (cells32 k HK.out) ?_; rw [HCK.out]) | (refine wpList_load_blk rfl 25 (.tmp 6) rfl (w.heap.size + 1) rfl 25 (nn.map u8v) HH.out.2.1 12 5 Try.underlying25 (cells12 nn HN.out) ?_; rw [HCN.out]))
        refine (HCB.out _).mono ?_
        rintro e w4 ⟨rfl, hb4⟩
        have HH4 := Lib.hid (And.intro (HH.out.1.below hb4 HH.out.1.lt) (And.intro (HH.out.2.1.below hb4 HH.out.2.1.lt) (And.intro (HH.out.2.2.1.below hb4 HH.out.2.2.1.lt) (And.intro (own_below HH.out.2.2.2.1 hb4) (And.intro (HH.out.2.2.2.2.1.trans (hb4.mono HH.out.2.2.2.2.1.size)) (Nat.le_trans HH.out.2.2.2.2.2 hb4.size))))))
        have hws := HH.out.2.2.2.2.2
        have fx4 := (World.cell?_of_block (hb4.block db (by omega)) : w4.cell? ⟨db, off + j, none⟩ = wr.cell? ⟨db, off + j, none⟩).trans fx
        clear HH hb4 fx hq1 hqm hcv
        go_upto_region 8 with (refine wpList_store_blk rfl 48 (.tmp 10) (.tmp 30) rfl (w.heap.size + 2) (b2.map u8v) rfl (by rw [HSB.out]; rfl) 48 (bl.map u8v) HH4.out.2.2.1 (cells64 b2 H642.out) (by rw [List.length_map, List.length_map, H642.out, H64.out]) (u8v_one _) ?_; intro w5 hb5 hg5)
        simp only [Act.put]
        have hfr := own_from HH4.out.2.2.2.1
        have HH := Lib.hid (And.intro (HH4.out.1.grown hg5 (by simp)) (And.intro (HH4.out.2.1.grown hg5 (by simp)) (And.intro hb5 (And.intro (HH4.out.2.2.2.1.kept hg5 (.inr (fun e => by have := hfr _ e; omega))) (And.intro (below_blk HH4.out.2.2.2.2.1 hg5 (by omega)) (Nat.le_trans HH4.out.2.2.2.2.2 hg5.size))))))
        have hws4 := HH4.out.2.2.2.2.2
        have fx := (World.cell?_of_block (hg5.block db (by omega) (by simp; omega)) : w5.cell? ⟨db, off + j, none⟩ = w4.cell? ⟨db, off + j, none⟩).trans fx4
        clear HH4 hb5 hg5 fx4 hfr hws hws4
        have htl : 0 < b2.length := by rw [H642.out]; omega
        have hX : bits BinOp.xor IntKind.u8 (xb.toNat : Int) (b2[0].toNat : Int) = (X[j].toNat : Int) := by rw [u8_xor_val, HXE.out b2 HB2.out htl]
        have fy := HH.out.2.2.1.cell 0
        rw [map_u8v_getElem? b2 0 htl] at fy
        generalize b2[0] = yb at fy hX
        obtain ⟨zb, hzb⟩ : ∃ zb, X[j] = zb := ⟨_, rfl⟩
        rw [hzb] at hX
        have HZ := Lib.hid hzb
        have hX2 : ((xb.toNat ^^^ yb.toNat : Nat) : Int) = (zb.toNat : Int) := by rw [← hX, u8_xor_nat _ _ xb.toNat_lt yb.toNat_lt]
        clear hzb
        have hsz := HH.out.2.2.2.2.2
        have HO := Lib.hid HH.out.2.2.2.1
        go_wp2_with (at_builtin; refine wpList_append_bytes _ rfl (.tmp 31) (.tmp 38) 26 rfl (w.heap.size + 3) 5 i0 (.int .u8 0) Try.underlying26 hi hz0 hz1 hz2 rfl u9 j _ rfl (HO.out.alloc _) ⟨w5.heap.size, 0, none⟩ 1 1 [.int .u8 (zb.toNat : Int)] rfl rfl (cell_one_new _ _ _) (one_u8 _) (by omega) (by simp; omega) ?_; intro v' w9 hown' hg')
        have hfr := own_from HO.out
        have HN := Lib.hid (show Blk w9 w.heap.size 23 (k.map u8v) ∧ Blk w9 (w.heap.size + 1) 25 (nn.map u8v) ∧ Blk w9 (w.heap.size + 2) 48 (b2.map u8v) ∧ w9.ownsRow (w.heap.size + 3) 5 1 v' (j + 1) ((X.take (j + 1)).map u8v) ∧ Below w.heap.size w w9 ∧ w.heap.size + 3 ≤ w9.heap.size by
          refine ⟨(HH.out.1.alloc _).grown hg' (fun e => by have := hfr _ e.symm; omega), (HH.out.2.1.alloc _).grown hg' (fun e => by have := hfr _ e.symm; omega), (HH.out.2.2.1.alloc _).grown hg' (fun e => by have := hfr _ e.symm; omega), ?_, (HH.out.2.2.2.2.1.alloc (by omega) _).grown hg' (by simp; omega) (fun q hq => by have := hfr q hq; omega), ?_⟩
          · rw [List.take_succ_eq_append_getElem hjX, HZ.out, List.map_append]
            exact hown'
          · have := hg'.size
            simp at this
            omega)
        clear hown' hg' fx fy hX hX2 HH HO hfr hsz
        go_wp2
        go_roundw
        case rel => exact ⟨j + 1, b2, by omega, by go_num, H642.out, fun h => by rw [show (j + 1) / 64 = j / 64 by omega]; exact HB2.out, HN.out.1, HN.out.2.1, HN.out.2.2.1, HN.out.2.2.2.1, HN.out.2.2.2.2.1, HN.out.2.2.2.2.2⟩
        case measure => simp [intOf]; omega
      · have h00 : ((t : Int) == 0) = false := by rw [beq_eq_false_iff_ne]; omega
        have HB3 := Lib.hid (HBB.out (by rw [HT.out]; exact h0))
        have htl : t < bl.length := by rw [H64.out]; omega
        have hX : bits BinOp.xor IntKind.u8 (xb.toNat : Int) (bl[t].toNat : Int) = (X[j].toNat : Int) := by rw [u8_xor_val, HXE.out bl HB3.out htl]
        have fy := HH.out.2.2.1.cell t
        rw [map_u8v_getElem? bl t htl] at fy
        generalize bl[t] = yb at fy hX
        obtain ⟨zb, hzb⟩ : ∃ zb, X[j] = zb := ⟨_, rfl⟩
        rw [hzb] at hX
        have HZ := Lib.hid hzb
        have hX2 : ((xb.toNat ^^^ yb.toNat : Nat) : Int) = (zb.toNat : Int) := by rw [← hX, u8_xor_nat _ _ xb.toNat_lt yb.toNat_lt]
        clear hzb
        have hsz := HH.out.2.2.2.2.2
        have HO := Lib.hid HH.out.2.2.2.1
        go_wp2_with (at_builtin; refine wpList_append_bytes _ rfl (.tmp 31) (.tmp 38) 26 rfl (w.heap.size + 3) 5 i0 (.int .u8 0) Try.underlying26 hi hz0 hz1 hz2 rfl u9 j _ rfl (HO.out.alloc _) ⟨wr.heap.size, 0, none⟩ 1 1 [.int .u8 (zb.toNat : Int)] rfl rfl (cell_one_new _ _ _) (one_u8 _) (by omega) (by simp; omega) ?_; intro v' w9 hown' hg')
        have hfr := own_from HO.out
        have HN := Lib.hid (show Blk w9 w.heap.size 23 (k.map u8v) ∧ Blk w9 (w.heap.size + 1) 25 (nn.map u8v) ∧ Blk w9 (w.heap.size + 2) 48 (bl.map u8v) ∧ w9.ownsRow (w.heap.size + 3) 5 1 v' (j + 1) ((X.take (j + 1)).map u8v) ∧ Below w.heap.size w w9 ∧ w.heap.size + 3 ≤ w9.heap.size by
          refine ⟨(HH.out.1.alloc _).grown hg' (fun e => by have := hfr _ e.symm; omega), (HH.out.2.1.alloc _).grown hg' (fun e => by have := hfr _ e.symm; omega), (HH.out.2.2.1.alloc _).grown hg' (fun e => by have := hfr _ e.symm; omega), ?_, (HH.out.2.2.2.2.1.alloc (by omega) _).grown hg' (by simp; omega) (fun q hq => by have := hfr q hq; omega), ?_⟩
          · rw [List.take_succ_eq_append_getElem hjX, HZ.out, List.map_append]
            exact hown'
          · have := hg'.size
            simp at this
            omega)
        clear hown' hg' fx fy hX hX2 HH HO hfr hsz
        go_wp2
        go_roundw
        case rel => exact ⟨j + 1, bl, by omega, by go_num, H64.out, fun h => by rw [show (j + 1) / 64 = j / 64 by omega]; exact HB3.out, HN.out.1, HN.out.2.1, HN.out.2.2.1, HN.out.2.2.2.1, HN.out.2.2.2.2.1, HN.out.2.2.2.2.2⟩
        case measure => simp [intOf]; omega
    · obtain rfl : j = n := by omega
      have hown := HH.out.2.2.2.1
      rw [List.take_of_length_le (by rw [HXL.out]; exact Nat.le_refl _)] at hown
      obtain ⟨A', c', rfl, _⟩ := own_slice hown
      have HF := Lib.hid (And.intro hown HH.out.2.2.2.2.1)
      clear hown HH
      go_wp2
      go_ret
      exact ⟨A', c', rfl, by rw [HX.out]; exact own_base HF.out.1 (by omega), HF.out.2⟩
theorem refXor_any (k nn : List UInt8) (hk : k.length = 32) (hn : nn.length = 12) (c : UInt32) (D : Option Addr) (n cap : Nat) (l : List UInt8) (hn6 : n ≤ 1000000) (w : World) (hr : Rd w w.heap.size D n l) :
    Calls Try.prog 14 #[.agg (k.map u8v).toArray, .int .u32 (c.toNat : Int), .agg (nn.map u8v).toArray, .slice D n cap] w fun e w' => ∃ A c', e = .returned (.slice A n c') ∧ Rd w' w'.heap.size A n (xorL k c nn l) ∧ Below w.heap.size w w' := by
  refine (refXor_own k nn hk hn c D n cap l hn6 w hr).mono ?_
  rintro e w' ⟨A, c', he, ho, hb⟩
  exact ⟨A, c', he, Rd.of_own ho, hb⟩
end Go.Proofs.Ytafkedeelngnnaa
