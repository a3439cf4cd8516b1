/-
  The contract of the reference's Xor: byte by byte with the block of the place. The cells of a tag. The contracts of the reference's numbers of seventeen digits: reduced, plus, times, least. The contract of the reference's plus. The contracts of the reference's times and least. The contract of the reference's least. Rows of digits and bytes as Poly1305's own loops fill them; and two words for a region that draws its order. No statement is proved here.
-/
import Derived.Laws.BitsAllLaws
import Derived.Laws.Bits64
import Derived.Laws.ShiftsVarLaws
import Derived.RegionTactic
import Derived.BigRegion
import Derived.Deep.DeepCutAuto
import Derived.Test.YtlddafkikkaonaaGreatDoorMacsRepliesB9
namespace Go.Proofs.YtlddafkikkaonaaGreatDoor
open Go.RowKit
set_option maxRecDepth 100000 in
set_option maxHeartbeats 4000000 in
theorem refXor_own (k nn : List UInt8) (hk : k.length = 32) (hn : nn.length = 12) (c : UInt32) (D : Option Addr) (n cap : Nat) (l : List UInt8) (hn6 : n ≤ 1000000) (w : World) (hr : Rd w w.heap.size D n l) :
 Calls Tryz.prog 47 #[.agg (k.map u8v).toArray, .int .u32 (c.toNat : Int), .agg (nn.map u8v).toArray, .slice D n cap] w fun e w' => ∃ A c', e = .returned (.slice A n c') ∧ w'.ownsRow w.heap.size 5 1 (.slice A n c') n ((xorL k c nn l).map u8v) ∧ Below w.heap.size w w' := by
 obtain ⟨i0, hi, hz0, hz1, hz2⟩ := info_parts Tryz.info5
 have BC := fun (c' : UInt32) (w' : World) => refBlock_any k nn hk hn c' w'
 obtain ⟨ck, hck⟩ : ∃ ck, (k.map u8v).toArray = ck := ⟨_, rfl⟩
 obtain ⟨cn, hcn⟩ : ∃ cn, (nn.map u8v).toArray = cn := ⟨_, rfl⟩
 rw [hck, hcn] at BC
 rw [hck, hcn]
 have HK0 := Lib.hid (show Blk (w.alloc (.cells ck 23)) w.heap.size 23 (k.map u8v) by rw [← hck]; exact Blk.new w _ _)
 have HN0 := Lib.hid (show Blk ((w.alloc (.cells ck 23)).alloc (.cells cn 57)) (w.heap.size + 1) 57 (nn.map u8v) by rw [← hcn]; exact Blk.new' _ (by simp) _ _)
 have HCK := Lib.hid hck
 have HCN := Lib.hid hcn
 have HBC := Lib.hid BC
 have HK := Lib.hid hk
 have HN := Lib.hid hn
 have HR := Lib.hid hr
 have HLN := Lib.hid hr.1
 clear hk hn hck hcn BC hr
 obtain ⟨X, hX⟩ : ∃ X, xorL k c nn l = X := ⟨_, rfl⟩
 have HXL := Lib.hid (show X.length = n by rw [← hX, xorL_length]; exact HLN.out)
 have HX := Lib.hid hX
 clear hX
 go_enter Tryz.func47, Tryz.ntmps47
 go_upto_region 3 with fail
 have hk1 := (HK0.out.alloc (.cells cn 57)).alloc (.cells z64.toArray 89)
 have hn1 := HN0.out.alloc (.cells z64.toArray 89)
 have hzz1 : Blk (((w.alloc (.cells ck 23)).alloc (.cells cn 57)).alloc (.cells z64.toArray 89)) (w.heap.size + 2) 89 z64 := Blk.new' _ (by simp) _ _
 have hbel1 : Below w.heap.size w (((w.alloc (.cells ck 23)).alloc (.cells cn 57)).alloc (.cells z64.toArray 89)) := (((Below.refl _ _).alloc (Nat.le_refl _) _).alloc (by simp) _).alloc (by simp; omega) _
 have hs1 : w.heap.size + 3 ≤ (((w.alloc (.cells ck 23)).alloc (.cells cn 57)).alloc (.cells z64.toArray 89)).heap.size := by simp
 clear HK0 HN0
 have e64 : z64.toArray = zb64 := rfl
 rw [e64] at hk1 hn1 hzz1 hbel1 hs1
 generalize (((w.alloc (.cells ck 23)).alloc (.cells cn 57)).alloc (.cells zb64 89)) = w1 at hk1 hn1 hzz1 hbel1 hs1 ⊢
 clear e64
 rw [show w.heap.size + 1 + 1 = w.heap.size + 2 from rfl]
 have H1 := Lib.hid (And.intro hk1 (And.intro hn1 (And.intro hzz1 (And.intro hbel1 hs1))))
 clear hk1 hn1 hzz1 hbel1 hs1
 go_wp2_with fail
 go_loopw [9, 15, 11, 12] (fun v i _ _ wr => ∃ (j : Nat) (bl : List UInt8), j ≤ n ∧ i = .int .i64 (j : Int) ∧ bl.length = 64 ∧ (j % 64 ≠ 0 → bl = blockL k (c + UInt32.ofNat (j / 64)) nn) ∧ Blk wr w.heap.size 23 (k.map u8v) ∧ Blk wr (w.heap.size + 1) 57 (nn.map u8v) ∧ Blk wr (w.heap.size + 2) 89 (bl.map u8v) ∧ wr.ownsRow (w.heap.size + 3) 5 1 v j ((X.take j).map u8v) ∧ Below w.heap.size w wr ∧ w.heap.size + 3 ≤ wr.heap.size) (fun _ i _ _ _ => n - (intOf i).toNat)
 case atStart => exact ⟨0, List.replicate 64 0, by omega, rfl, by simp, (fun h => absurd rfl h), H1.out.1, H1.out.2.1, (by have h := H1.out.2.2.1; rwa [show z64 = (List.replicate 64 (0 : UInt8)).map u8v by rw [List.map_replicate]; rfl] at h), World.ownsRow_nil _ _ _ _, H1.out.2.2.2.1, H1.out.2.2.2.2⟩
 case round =>
  clear H1
  obtain ⟨j, bl, hj, rfl, hb64, hbb, hrest⟩ := hrel
  have HH := Lib.hid hrest
  have HBB := Lib.hid hbb
  have H64 := Lib.hid hb64
  clear hrest hbb hb64
  by_cases hlt : j < n
  ·
   have dj : decide ((j : Int) < (n : Int)) = true := by simp; omega
   have hjl : j < l.length := by rw [HLN.out]; omega
   obtain ⟨db, off, rfl, hdb, hc⟩ := (HR.out.below HH.out.2.2.2.2.1).at_ (by omega)
   have fx := hc j hjl
   clear hc
   have hjX : j < X.length := by rw [HXL.out]; omega
   obtain ⟨t, ht⟩ : ∃ t, j % 64 = t := ⟨_, rfl⟩
   have ht64 : t < 64 := by omega
   have hr1 : (j : Int).tmod 64 = (t : Int) := by
    rw [Int.tmod_eq_emod_of_nonneg (by omega)]
    omega
   have hXe : ∀ bl : List UInt8, bl = blockL k (c + UInt32.ofNat (j / 64)) nn → (h : t < bl.length) → X[j] = l[j] ^^^ bl[t] := fun bl hbl h => by
    have e := xor_byte k c nn l (j / 64) j (by omega) (by omega) hjl bl hbl (by omega)
    have e2 : (xorL k c nn l)[j]'(by rw [xorL_length]; exact hjl) = X[j] := by simp only [HX.out]
    rw [e2] at e
    rw [e]
    congr 2
    omega
   generalize l[j] = xb at fx hXe
   have HXE := Lib.hid hXe
   have HT := Lib.hid ht
   clear hXe ht
   by_cases h0 : t = 0
   ·
    subst h0
    replace hr1 : (j : Int).tmod 64 = 0 := by rw [hr1]; rfl
    obtain ⟨q, hq⟩ : ∃ q, j / 64 = q := ⟨_, rfl⟩
    have hq1 : (j : Int).tdiv 64 = (q : Int) := by
     rw [Int.tdiv_eq_ediv_of_nonneg (by omega)]
     omega
    have hqm : (q : Int) % 4294967296 = (q : Int) := by omega
    obtain ⟨cq, hcq⟩ : ∃ cq, c + UInt32.ofNat q = cq := ⟨_, rfl⟩
    have hcv : ((c.toNat : Int) + (q : Int)) % 4294967296 = (cq.toNat : Int) := by
     rw [← hcq, UInt32.toNat_add, UInt32.toNat_ofNat', Nat.mod_eq_of_lt (show q < 2 ^ 32 by omega)]
     omega
    obtain ⟨b2, hb2⟩ : ∃ b2, blockL k cq nn = b2 := ⟨_, rfl⟩
    have HCB := HBC.out cq
    rw [hb2] at HCB
    have H642 := Lib.hid (show b2.length = 64 by rw [← hb2]; exact blockL_length _ _ _)
    have HB2 := Lib.hid (show b2 = blockL k (c + UInt32.ofNat (j / 64)) nn by rw [hq, hcq, hb2])
    obtain ⟨sb, hsb⟩ : ∃ sb, (b2.map u8v).toArray = sb := ⟨_, rfl⟩
    rw [hsb] at HCB
    replace HCB := Lib.hid HCB
    have HSB := Lib.hid hsb
    clear hsb hb2 hcq hq
    go_upto_region 7 with fail
    go_wp2_with (first | (refine wpList_load_blk rfl 23 (.tmp 4) rfl w.heap.size rfl 23 (k.map u8v) HH.out.1 32 5 Tryz.underlying23 (cells32 k HK.out) ?_; rw [HCK.out]) | (refine wpList_load_blk rfl 57 (.tmp 6) rfl (w.heap.size + 1) rfl 57 (nn.map u8v) HH.out.2.1 12 5 Tryz.underlying57 (cells12 nn HN.out) ?_; rw [HCN.out]))
    refine (HCB.out _).mono ?_
    rintro e w4 ⟨rfl, hb4⟩
    have HH4 := Lib.hid (And.intro (HH.out.1.below hb4 HH.out.1.lt) (And.intro (HH.out.2.1.below hb4 HH.out.2.1.lt) (And.intro (HH.out.2.2.1.below hb4 HH.out.2.2.1.lt) (And.intro (own_below HH.out.2.2.2.1 hb4) (And.intro (HH.out.2.2.2.2.1.trans (hb4.mono HH.out.2.2.2.2.1.size)) (Nat.le_trans HH.out.2.2.2.2.2 hb4.size))))))
    have hws := HH.out.2.2.2.2.2
    have fx4 := (World.cell?_of_block (hb4.block db (by omega)) : w4.cell? ⟨db, off + j, none⟩ = wr.cell? ⟨db, off + j, none⟩).trans fx
    clear HH hb4 fx hq1 hqm hcv
    go_upto_region 8 with (refine wpList_store_blk rfl 89 (.tmp 10) (.tmp 30) rfl (w.heap.size + 2) (b2.map u8v) rfl (by rw [HSB.out]; rfl) 89 (bl.map u8v) HH4.out.2.2.1 (cells64 b2 H642.out) (by rw [List.length_map, List.length_map, H642.out, H64.out]) (u8v_one _) ?_; intro w5 hb5 hg5)
    simp only [Act.put]
    have hfr := own_from HH4.out.2.2.2.1
    have HH := Lib.hid (And.intro (HH4.out.1.grown hg5 (by simp)) (And.intro (HH4.out.2.1.grown hg5 (by simp)) (And.intro hb5 (And.intro (HH4.out.2.2.2.1.kept hg5 (.inr (fun e => by have := hfr _ e; omega))) (And.intro (below_blk HH4.out.2.2.2.2.1 hg5 (by omega)) (Nat.le_trans HH4.out.2.2.2.2.2 hg5.size))))))
    have hws4 := HH4.out.2.2.2.2.2
    have fx := (World.cell?_of_block (hg5.block db (by omega) (by simp; omega)) : w5.cell? ⟨db, off + j, none⟩ = w4.cell? ⟨db, off + j, none⟩).trans fx4
    clear HH4 hb5 hg5 fx4 hfr hws hws4
    have htl : 0 < b2.length := by rw [H642.out]; omega
    have hX : bits BinOp.xor IntKind.u8 (xb.toNat : Int) (b2[0].toNat : Int) = (X[j].toNat : Int) := by rw [u8_xor_val, HXE.out b2 HB2.out htl]
    have fy := HH.out.2.2.1.cell 0
    rw [map_u8v_getElem? b2 0 htl] at fy
    generalize b2[0] = yb at fy hX
    obtain ⟨zb, hzb⟩ : ∃ zb, X[j] = zb := ⟨_, rfl⟩
    rw [hzb] at hX
    have HZ := Lib.hid hzb
    have hX2 : ((xb.toNat ^^^ yb.toNat : Nat) : Int) = (zb.toNat : Int) := by rw [← hX, u8_xor_nat _ _ xb.toNat_lt yb.toNat_lt]
    clear hzb
    have hsz := HH.out.2.2.2.2.2
    have HO := Lib.hid HH.out.2.2.2.1
    go_wp2_with (at_builtin; refine wpList_append_bytes _ rfl (.tmp 31) (.tmp 38) 29 rfl (w.heap.size + 3) 5 i0 (.int .u8 0) Tryz.underlying29 hi hz0 hz1 hz2 rfl u9 j _ rfl (HO.out.alloc _) ⟨w5.heap.size, 0, none⟩ 1 1 [.int .u8 (zb.toNat : Int)] rfl rfl (cell_one_new _ _ _) (one_u8 _) (by omega) (by simp; omega) ?_; intro v' w9 hown' hg')
    have hfr := own_from HO.out
    have HN := Lib.hid (show Blk w9 w.heap.size 23 (k.map u8v) ∧ Blk w9 (w.heap.size + 1) 57 (nn.map u8v) ∧ Blk w9 (w.heap.size + 2) 89 (b2.map u8v) ∧ w9.ownsRow (w.heap.size + 3) 5 1 v' (j + 1) ((X.take (j + 1)).map u8v) ∧ Below w.heap.size w w9 ∧ w.heap.size + 3 ≤ w9.heap.size by
     refine ⟨(HH.out.1.alloc _).grown hg' (fun e => by have := hfr _ e.symm; omega), (HH.out.2.1.alloc _).grown hg' (fun e => by have := hfr _ e.symm; omega), (HH.out.2.2.1.alloc _).grown hg' (fun e => by have := hfr _ e.symm; omega), ?_, (HH.out.2.2.2.2.1.alloc (by omega) _).grown hg' (by simp; omega) (fun q hq => by have := hfr q hq; omega), ?_⟩
     ·
      rw [List.take_succ_eq_append_getElem hjX, HZ.out, List.map_append]
      exact hown'
     ·
      have := hg'.size
      simp at this
      omega)
    clear hown' hg' fx fy hX hX2 HH HO hfr hsz
    go_wp2
    go_roundw
    case rel => exact ⟨j + 1, b2, by omega, by go_num, H642.out, fun h => by rw [show (j + 1) / 64 = j / 64 by omega]; exact HB2.out, HN.out.1, HN.out.2.1, HN.out.2.2.1, HN.out.2.2.2.1, HN.out.2.2.2.2.1, HN.out.2.2.2.2.2⟩
    case measure => simp [intOf]; omega
   ·
    have h00 : ((t : Int) == 0) = false := by rw [beq_eq_false_iff_ne]; omega
    have HB3 := Lib.hid (HBB.out (by rw [HT.out]; exact h0))
    have htl : t < bl.length := by rw [H64.out]; omega
    have hX : bits BinOp.xor IntKind.u8 (xb.toNat : Int) (bl[t].toNat : Int) = (X[j].toNat : Int) := by rw [u8_xor_val, HXE.out bl HB3.out htl]
    have fy := HH.out.2.2.1.cell t
    rw [map_u8v_getElem? bl t htl] at fy
    generalize bl[t] = yb at fy hX
    obtain ⟨zb, hzb⟩ : ∃ zb, X[j] = zb := ⟨_, rfl⟩
    rw [hzb] at hX
    have HZ := Lib.hid hzb
    have hX2 : ((xb.toNat ^^^ yb.toNat : Nat) : Int) = (zb.toNat : Int) := by rw [← hX, u8_xor_nat _ _ xb.toNat_lt yb.toNat_lt]
    clear hzb
    have hsz := HH.out.2.2.2.2.2
    have HO := Lib.hid HH.out.2.2.2.1
    go_wp2_with (at_builtin; refine wpList_append_bytes _ rfl (.tmp 31) (.tmp 38) 29 rfl (w.heap.size + 3) 5 i0 (.int .u8 0) Tryz.underlying29 hi hz0 hz1 hz2 rfl u9 j _ rfl (HO.out.alloc _) ⟨wr.heap.size, 0, none⟩ 1 1 [.int .u8 (zb.toNat : Int)] rfl rfl (cell_one_new _ _ _) (one_u8 _) (by omega) (by simp; omega) ?_; intro v' w9 hown' hg')
    have hfr := own_from HO.out
    have HN := Lib.hid (show Blk w9 w.heap.size 23 (k.map u8v) ∧ Blk w9 (w.heap.size + 1) 57 (nn.map u8v) ∧ Blk w9 (w.heap.size + 2) 89 (bl.map u8v) ∧ w9.ownsRow (w.heap.size + 3) 5 1 v' (j + 1) ((X.take (j + 1)).map u8v) ∧ Below w.heap.size w w9 ∧ w.heap.size + 3 ≤ w9.heap.size by
     refine ⟨(HH.out.1.alloc _).grown hg' (fun e => by have := hfr _ e.symm; omega), (HH.out.2.1.alloc _).grown hg' (fun e => by have := hfr _ e.symm; omega), (HH.out.2.2.1.alloc _).grown hg' (fun e => by have := hfr _ e.symm; omega), ?_, (HH.out.2.2.2.2.1.alloc (by omega) _).grown hg' (by simp; omega) (fun q hq => by have := hfr q hq; omega), ?_⟩
     ·
      rw [List.take_succ_eq_append_getElem hjX, HZ.out, List.map_append]
      exact hown'
     ·
      have := hg'.size
      simp at this
      omega)
    clear hown' hg' fx fy hX hX2 HH HO hfr hsz
    go_wp2
    go_roundw
    case rel => exact ⟨j + 1, bl, by omega, by go_num, H64.out, fun h => by rw [show (j + 1) / 64 = j / 64 by omega]; exact HB3.out, HN.out.1, HN.out.2.1, HN.out.2.2.1, HN.out.2.2.2.1, HN.out.2.2.2.2.1, HN.out.2.2.2.2.2⟩
    case measure => simp [intOf]; omega
  ·
   obtain rfl : j = n := by omega
   have hown := HH.out.2.2.2.1
   rw [List.take_of_length_le (by rw [HXL.out]; exact Nat.le_refl _)] at hown
   obtain ⟨A', c', rfl, _⟩ := own_slice hown
   have HF := Lib.hid (And.intro hown HH.out.2.2.2.2.1)
   clear hown HH
   go_wp2
   go_ret
   exact ⟨A', c', rfl, by rw [HX.out]; exact own_base HF.out.1 (by omega), HF.out.2⟩
def zT : List Value := List.replicate 16 (.int .u8 0)
theorem zT_arr : zT.toArray = zb16 := rfl
theorem cells16T (l : List UInt8) (h : l.length = 16) : (Tryz.prog.info? 27).map (·.size) = some (l.map u8v).length := by
 rw [List.length_map, h]; kernel_rfl
/-- a digit as a cell -/
def nv (n : Nat) : Value := .int .u32 (n : Int)
theorem nv_one (l : List Nat) : ∀ v ∈ l.map nv, v.oneCell' = true := by
 intro v hv
 obtain ⟨b, _, rfl⟩ := List.mem_map.1 hv
 rfl
theorem Blk.dig {w : World} {g : Nat} {t : TypeId} {l : List Nat} (h : Blk w g t (l.map nv)) (i : Nat) (hi : i < l.length) : w.cell? ⟨g, i, none⟩ = some (.int .u32 (dg l i : Int)) := by
 rw [h.cell i]
 simp [nv, hi, dg, List.getD]
theorem Blk.setDig {w : World} {g : Nat} {t : TypeId} {l : List Nat} (h : Blk w g t (l.map nv)) (i x : Nat) : Blk (w.setCell ⟨g, i, none⟩ (.int .u32 (x : Int))) g t ((l.set i x).map nv) := by
 have h' := h.set_ i (.int .u32 (x : Int))
 rw [List.map_set]
 exact h'
def z17 : List Value := [.int .u32 0, .int .u32 0, .int .u32 0, .int .u32 0, .int .u32 0, .int .u32 0, .int .u32 0, .int .u32 0, .int .u32 0, .int .u32 0, .int .u32 0, .int .u32 0, .int .u32 0, .int .u32 0, .int .u32 0, .int .u32 0, .int .u32 0]
theorem z17_arr : z17.toArray = #[.int .u32 0, .int .u32 0, .int .u32 0, .int .u32 0, .int .u32 0, .int .u32 0, .int .u32 0, .int .u32 0, .int .u32 0, .int .u32 0, .int .u32 0, .int .u32 0, .int .u32 0, .int .u32 0, .int .u32 0, .int .u32 0, .int .u32 0] := rfl
theorem z17_map : z17 = (List.replicate 17 0).map nv := rfl
theorem cells17 (l : List Nat) (h : l.length = 17) : (Tryz.prog.info? 105).map (·.size) = some (l.map nv).length := by
 rw [List.length_map, h]; kernel_rfl
theorem and_mask (s : Nat) (k : Nat) (hs : s < 4294967296) (hk : k < 32) : bits BinOp.and IntKind.u32 (s : Int) ((2 ^ k - 1 : Nat) : Int) = ((s % 2 ^ k : Nat) : Int) := by
 have hk2 : 2 ^ k ≤ 2 ^ 32 := Nat.pow_le_pow_right (by omega) (by omega)
 rw [u32_and_nat _ _ hs (by omega), Nat.and_two_pow_sub_one_eq_mod]
set_option maxRecDepth 100000 in
set_option maxHeartbeats 2000000 in
theorem reduced_any (l : List Nat) (hf : fits l) (w : World) :
 Calls Tryz.prog 96 #[.agg (l.map nv).toArray] w fun e w' => e = .returned (.agg ((redN l).map nv).toArray) ∧ Below w.heap.size w w' := by
 obtain ⟨cl, hcl⟩ : ∃ cl, (l.map nv).toArray = cl := ⟨_, rfl⟩
 rw [hcl]
 have HB0 := Lib.hid (show Blk (w.alloc (.cells cl 105)) w.heap.size 105 (l.map nv) by rw [← hcl]; exact Blk.new w _ _)
 have HF := Lib.hid hf
 clear hf
 go_enter Tryz.func96, Tryz.ntmps96
 go_upto_region 1 with fail
 have hk1 := HB0.out.alloc (.cells z17.toArray 105)
 have hz1 : Blk ((w.alloc (.cells cl 105)).alloc (.cells z17.toArray 105)) (w.heap.size + 1) 105 z17 := Blk.new' _ (by simp) _ _
 have hbel1 : Below w.heap.size w ((w.alloc (.cells cl 105)).alloc (.cells z17.toArray 105)) := ((Below.refl _ _).alloc (Nat.le_refl _) _).alloc (by simp) _
 rw [z17_arr] at hk1 hz1 hbel1
 clear HB0 hcl
 generalize ((w.alloc (.cells cl 105)).alloc (.cells #[.int .u32 0, .int .u32 0, .int .u32 0, .int .u32 0, .int .u32 0, .int .u32 0, .int .u32 0, .int .u32 0, .int .u32 0, .int .u32 0, .int .u32 0, .int .u32 0, .int .u32 0, .int .u32 0, .int .u32 0, .int .u32 0, .int .u32 0] 105)) = w1 at hk1 hz1 hbel1 ⊢
 go_wp2_with fail
 go_loopw [3, 4, 5, 6] (fun i _ _ _ wr => ∃ (j : Nat) (c : List Nat), j ≤ 2 ∧ i = .int .i64 j ∧ Hid ((j = 2 → c = redN l) ∧ (j < 2 → fits c ∧ redN l = (if j = 0 then redR (redR c) else redR c))) ∧ Blk wr w.heap.size 105 (c.map nv) ∧ Blk wr (w.heap.size + 1) 105 z17 ∧ Below w.heap.size w wr) (fun i _ _ _ _ => 2 - (intOf i).toNat)
 case atStart => exact ⟨0, l, by omega, rfl, Lib.hid ⟨fun h => by omega, fun _ => ⟨HF.out, rfl⟩⟩, hk1, hz1, hbel1⟩
 case round =>
  clear hk1 hz1 hbel1
  obtain ⟨j, c, hj, rfl, HC, hblk, hz, hbel⟩ := hrel
  by_cases hlt : j < 2
  ·
   have d2 : decide ((j : Int) < 2) = true := by simp; omega
   have HFC := Lib.hid (HC.out.2 hlt).1
   have HB := Lib.hid (And.intro hblk (And.intro hz hbel))
   clear hblk hz hbel
   go_upto_region 6 with fail
   clear d2
   go_loopw [4, 5] (fun u i wr => ∃ n : Nat, n ≤ 16 ∧ i = .int .i64 (n : Int) ∧ u = .int .u32 ((pass c 0 n).2 : Int) ∧ Blk wr w.heap.size 105 ((pass c 0 n).1.map nv) ∧ Blk wr (w.heap.size + 1) 105 z17 ∧ Below w.heap.size w wr) (fun _ i _ => 16 - (intOf i).toNat)
   case atStart => exact ⟨0, by omega, rfl, rfl, HB.out.1, HB.out.2.1, HB.out.2.2⟩
   case round =>
    clear HB
    obtain ⟨n, hn, rfl, rfl, hblk, hz, hbel⟩ := hrel
    by_cases hln : n < 16
    ·
     have d16 : decide ((n : Int) < 16) = true := by simp; omega
     have hlen : (pass c 0 n).1.length = 17 := by rw [pass_length]; exact HFC.out.1
     have fx := hblk.dig n (by omega)
     have zx := hblk.frozen n
     have hu := fits_carry HFC.out n (by omega)
     have hd : dg (pass c 0 n).1 n ≤ 400000000 := by rw [pass_above c 0 n n (Nat.le_refl _) (by rw [HFC.out.1]; omega)]; exact HFC.out.2 n
     have hnx : pass c 0 (n + 1) = ((pass c 0 n).1.set n (((pass c 0 n).2 + dg (pass c 0 n).1 n) % 256), ((pass c 0 n).2 + dg (pass c 0 n).1 n) / 256) := rfl
     generalize (pass c 0 n).2 = u at hu hnx ⊢
     generalize hdd : dg (pass c 0 n).1 n = d at fx hd hnx
     have HNX := Lib.hid hnx
     have HB := Lib.hid (And.intro hblk (And.intro hz hbel))
     clear hnx hblk hz hbel hdd hlen
     obtain ⟨s, hs⟩ : ∃ s, u + d = s := ⟨_, rfl⟩
     have hs1 : ((u : Int) + (d : Int)) % 4294967296 = (s : Int) := by omega
     obtain ⟨m, hmm⟩ : ∃ m, s % 256 = m := ⟨_, rfl⟩
     obtain ⟨q, hqq⟩ : ∃ q, s / 256 = q := ⟨_, rfl⟩
     have HS := Lib.hid (And.intro hs (And.intro hmm hqq))
     have hm : bits BinOp.and IntKind.u32 (s : Int) 255 = (m : Int) := by rw [← hmm]; exact and_mask s 8 (by omega) (by omega)
     have hq : (s : Int) / 256 = (q : Int) := by omega
     clear hs hmm hqq hu hd
     go_wp2_with fail
     go_roundw
     case rel =>
      refine ⟨n + 1, by omega, by go_num, ?_, ?_, HB.out.2.1.far (by simp) _, HB.out.2.2.setCell (by dsimp only; omega) _⟩
      · rw [HNX.out, HS.out.1, HS.out.2.2]
      ·
       rw [HNX.out, HS.out.1, HS.out.2.1]
       exact HB.out.1.setDig n m
     case measure => simp [intOf]; omega
    ·
     obtain rfl : n = 16 := by omega
     have hlen : (pass c 0 16).1.length = 17 := by rw [pass_length]; exact HFC.out.1
     have fx := hblk.dig 16 (by omega)
     have zx := hblk.frozen 16
     have hu := fits_carry HFC.out 16 (by omega)
     have hd : dg (pass c 0 16).1 16 ≤ 400000000 := by rw [pass_above c 0 16 16 (Nat.le_refl _) (by rw [HFC.out.1]; omega)]; exact HFC.out.2 16
     obtain ⟨t, ht⟩ : ∃ t, (pass c 0 16).2 + dg (pass c 0 16).1 16 = t := ⟨_, rfl⟩
     have hmid : mid c = (pass c 0 16).1.set 16 (t % 4) := by rw [← ht]; rfl
     have hmu : midU c = 5 * (t / 4) := by rw [← ht]; rfl
     obtain ⟨m, hmm⟩ : ∃ m, t % 4 = m := ⟨_, rfl⟩
     obtain ⟨q, hqq⟩ : ∃ q, t / 4 = q := ⟨_, rfl⟩
     obtain ⟨v, hvv⟩ : ∃ v, midU c = v := ⟨_, rfl⟩
     have ht1 : ((((pass c 0 16).2 : Nat) : Int) + ((dg (pass c 0 16).1 16 : Nat) : Int)) % 4294967296 = (t : Int) := by omega
     have hm : bits BinOp.and IntKind.u32 (t : Int) 3 = (m : Int) := by rw [← hmm]; exact and_mask t 2 (by omega) (by omega)
     have hq : (t : Int) / 4 = (q : Int) := by omega
     have hv : (5 * (q : Int)) % 4294967296 = (v : Int) := by omega
     rw [hmm] at hmid
     generalize (pass c 0 16).2 = u at hu ht ht1 ⊢
     generalize dg (pass c 0 16).1 16 = d at fx hd ht ht1
     have HB := Lib.hid (show Blk (wr.setCell ⟨w.heap.size, 16, none⟩ (.int .u32 (m : Int))) w.heap.size 105 ((mid c).map nv) ∧ Blk (wr.setCell ⟨w.heap.size, 16, none⟩ (.int .u32 (m : Int))) (w.heap.size + 1) 105 z17 ∧ Below w.heap.size w (wr.setCell ⟨w.heap.size, 16, none⟩ (.int .u32 (m : Int))) from ⟨by rw [hmid]; exact hblk.setDig 16 m, hz.far (by simp) _, hbel.setCell (by dsimp only; omega) _⟩)
     have HVV := Lib.hid hvv
     have HV := Lib.hid hv
     clear hblk hz hbel hlen hmid hmu hmm hqq hvv ht hu hd
     rw [show ((16 : Nat) : Int) = 16 from rfl]
     go_upto_region 15 with fail
     clear fx zx hm hq hv ht1
     generalize wr.setCell ⟨w.heap.size, 16, none⟩ (.int .u32 (m : Int)) = w2 at HB ⊢
     go_loopw [4, 6] (fun u i wr => ∃ n : Nat, n ≤ 16 ∧ i = .int .i64 (n : Int) ∧ u = .int .u32 ((pass (mid c) (midU c) n).2 : Int) ∧ Blk wr w.heap.size 105 ((pass (mid c) (midU c) n).1.map nv) ∧ Blk wr (w.heap.size + 1) 105 z17 ∧ Below w.heap.size w wr) (fun _ i _ => 16 - (intOf i).toNat)
     case atStart => exact ⟨0, by omega, rfl, congrArg (Value.int .u32) (HV.out.trans (by rw [← HVV.out]; rfl)), HB.out.1, HB.out.2.1, HB.out.2.2⟩
     case round =>
      clear HB
      obtain ⟨n, hn, rfl, rfl, hblk, hz, hbel⟩ := hrel
      by_cases hln : n < 16
      ·
       have d16 : decide ((n : Int) < 16) = true := by simp; omega
       have hlen : (pass (mid c) (midU c) n).1.length = 17 := by rw [pass_length, mid_length]; exact HFC.out.1
       have fx := hblk.dig n (by omega)
       have zx := hblk.frozen n
       have hu := mid_carry HFC.out n (by omega)
       have hd : dg (pass (mid c) (midU c) n).1 n ≤ 255 := by rw [pass_above _ _ n n (Nat.le_refl _) (by rw [mid_length, HFC.out.1]; omega)]; exact mid_le HFC.out n
       have hnx : pass (mid c) (midU c) (n + 1) = ((pass (mid c) (midU c) n).1.set n (((pass (mid c) (midU c) n).2 + dg (pass (mid c) (midU c) n).1 n) % 256), ((pass (mid c) (midU c) n).2 + dg (pass (mid c) (midU c) n).1 n) / 256) := rfl
       generalize (pass (mid c) (midU c) n).2 = u at hu hnx ⊢
       generalize hdd : dg (pass (mid c) (midU c) n).1 n = d at fx hd hnx
       have HNX := Lib.hid hnx
       have HB := Lib.hid (And.intro hblk (And.intro hz hbel))
       clear hnx hblk hz hbel hdd hlen
       obtain ⟨s, hs⟩ : ∃ s, u + d = s := ⟨_, rfl⟩
       have hs1 : ((u : Int) + (d : Int)) % 4294967296 = (s : Int) := by omega
       obtain ⟨m, hmm⟩ : ∃ m, s % 256 = m := ⟨_, rfl⟩
       obtain ⟨q, hqq⟩ : ∃ q, s / 256 = q := ⟨_, rfl⟩
       have HS := Lib.hid (And.intro hs (And.intro hmm hqq))
       have hm : bits BinOp.and IntKind.u32 (s : Int) 255 = (m : Int) := by rw [← hmm]; exact and_mask s 8 (by omega) (by omega)
       have hq : (s : Int) / 256 = (q : Int) := by omega
       clear hs hmm hqq hu hd
       go_wp2_with fail
       go_roundw
       case rel =>
        refine ⟨n + 1, by omega, by go_num, ?_, ?_, HB.out.2.1.far (by simp) _, HB.out.2.2.setCell (by dsimp only; omega) _⟩
        · rw [HNX.out, HS.out.1, HS.out.2.2]
        ·
         rw [HNX.out, HS.out.1, HS.out.2.1]
         exact HB.out.1.setDig n m
       case measure => simp [intOf]; omega
      ·
       obtain rfl : n = 16 := by omega
       have hlen : (pass (mid c) (midU c) 16).1.length = 17 := by rw [pass_length, mid_length]; exact HFC.out.1
       have fx := hblk.dig 16 (by omega)
       have zx := hblk.frozen 16
       have hu := mid_carry HFC.out 16 (by omega)
       have hd : dg (pass (mid c) (midU c) 16).1 16 ≤ 255 := by rw [pass_above _ _ 16 16 (Nat.le_refl _) (by rw [mid_length, HFC.out.1]; omega)]; exact mid_le HFC.out 16
       obtain ⟨t, ht⟩ : ∃ t, dg (pass (mid c) (midU c) 16).1 16 + (pass (mid c) (midU c) 16).2 = t := ⟨_, rfl⟩
       have hred : redR c = (pass (mid c) (midU c) 16).1.set 16 t := by rw [← ht]; rfl
       have ht1 : (((dg (pass (mid c) (midU c) 16).1 16 : Nat) : Int) + (((pass (mid c) (midU c) 16).2 : Nat) : Int)) % 4294967296 = (t : Int) := by omega
       generalize (pass (mid c) (midU c) 16).2 = u at hu ht ht1 ⊢
       generalize dg (pass (mid c) (midU c) 16).1 16 = d at fx hd ht ht1
       have HB := Lib.hid (show Blk (wr.setCell ⟨w.heap.size, 16, none⟩ (.int .u32 (t : Int))) w.heap.size 105 ((redR c).map nv) ∧ Blk (wr.setCell ⟨w.heap.size, 16, none⟩ (.int .u32 (t : Int))) (w.heap.size + 1) 105 z17 ∧ Below w.heap.size w (wr.setCell ⟨w.heap.size, 16, none⟩ (.int .u32 (t : Int))) from ⟨by rw [hred]; exact hblk.setDig 16 t, hz.far (by simp) _, hbel.setCell (by dsimp only; omega) _⟩)
       clear hblk hz hbel hlen hred ht hu hd
       rw [show ((16 : Nat) : Int) = 16 from rfl]
       go_wp2_with fail
       go_roundw
       case rel =>
        refine ⟨j + 1, redR c, by omega, by go_num, Lib.hid ⟨fun h => ?_, fun h => ?_⟩, HB.out.1, HB.out.2.1, HB.out.2.2⟩
        ·
         have := (HC.out.2 hlt).2
         rw [if_neg (by omega)] at this
         exact this.symm
        ·
         have := (HC.out.2 hlt).2
         rw [if_pos (by omega)] at this
         exact ⟨(redR_tidy HFC.out).fits (by omega), by rw [this, if_neg (by omega)]⟩
       case measure => simp [intOf]; omega
  ·
   obtain rfl : j = 2 := by omega
   have hce := HC.out.1 rfl
   obtain ⟨lz, hlz⟩ : ∃ lz, redN l = lz := ⟨_, rfl⟩
   have hcl : c.length = 17 := by rw [hce, redN_length]; exact HF.out.1
   have HZ := Lib.hid (hce.symm)
   have HLz := Lib.hid hcl
   have HB := Lib.hid (And.intro hblk (And.intro hz hbel))
   obtain ⟨cz, hcz⟩ : ∃ cz, (c.map nv).toArray = cz := ⟨_, rfl⟩
   have HCZ := Lib.hid hcz
   clear hblk hz hbel hcz hce hlz hcl HC
   rw [show ((2 : Nat) : Int) = 2 from rfl]
   go_wp2_with (first | (refine wpList_load_blk rfl 105 (.tmp 1) rfl w.heap.size rfl 105 (c.map nv) HB.out.1 17 28 Tryz.underlying105 (cells17 c HLz.out) ?_; rw [HCZ.out]) | (refine wpList_store_blk rfl 105 (.tmp 2) (.tmp 56) rfl (w.heap.size + 1) (c.map nv) rfl (by show Value.agg cz = _; rw [HCZ.out]) 105 z17 HB.out.2.1 (cells17 c HLz.out) (by rw [List.length_map, HLz.out]; rfl) (nv_one _) ?_; intro w9 hb9 hg9))
   exact bodyPost_ret (results_blk rfl _ _ (w.heap.size + 1) 105 (c.map nv) 17 28 rfl hb9 Tryz.underlying105 (cells17 c HLz.out)) rfl ⟨by rw [HZ.out], below_blk HB.out.2.2 hg9 (by omega)⟩
set_option maxRecDepth 100000 in
set_option maxHeartbeats 2000000 in
theorem plus_any (a b : List Nat) (ha : a.length = 17 ∧ ∀ i, dg a i ≤ 255) (hb : b.length = 17 ∧ ∀ i, dg b i ≤ 255) (w : World) :
 Calls Tryz.prog 79 #[.agg (a.map nv).toArray, .agg (b.map nv).toArray] w fun e w' => e = .returned (.agg ((plusN a b).map nv).toArray) ∧ Below w.heap.size w w' := by
 obtain ⟨ca, hca⟩ : ∃ ca, (a.map nv).toArray = ca := ⟨_, rfl⟩
 obtain ⟨cb, hcb⟩ : ∃ cb, (b.map nv).toArray = cb := ⟨_, rfl⟩
 rw [hca, hcb]
 have HB0 := Lib.hid (show Blk (w.alloc (.cells ca 105)) w.heap.size 105 (a.map nv) by rw [← hca]; exact Blk.new w _ _)
 have HB1 := Lib.hid (show Blk ((w.alloc (.cells ca 105)).alloc (.cells cb 105)) (w.heap.size + 1) 105 (b.map nv) by rw [← hcb]; exact Blk.new' _ (by simp) _ _)
 have HA := Lib.hid ha
 have HBB := Lib.hid hb
 clear ha hb
 go_enter Tryz.func79, Tryz.ntmps79
 go_upto_region 1 with fail
 have h1 := (HB0.out.alloc (.cells cb 105)).alloc (.cells z17.toArray 105)
 have h2 := HB1.out.alloc (.cells z17.toArray 105)
 have h3 : Blk (((w.alloc (.cells ca 105)).alloc (.cells cb 105)).alloc (.cells z17.toArray 105)) (w.heap.size + 2) 105 z17 := Blk.new' _ (by simp) _ _
 have h4 : Below w.heap.size w (((w.alloc (.cells ca 105)).alloc (.cells cb 105)).alloc (.cells z17.toArray 105)) := (((Below.refl _ _).alloc (Nat.le_refl _) _).alloc (by simp) _).alloc (by simp; omega) _
 rw [z17_arr] at h1 h2 h3 h4
 clear HB0 HB1 hca hcb
 generalize (((w.alloc (.cells ca 105)).alloc (.cells cb 105)).alloc (.cells #[.int .u32 0, .int .u32 0, .int .u32 0, .int .u32 0, .int .u32 0, .int .u32 0, .int .u32 0, .int .u32 0, .int .u32 0, .int .u32 0, .int .u32 0, .int .u32 0, .int .u32 0, .int .u32 0, .int .u32 0, .int .u32 0, .int .u32 0] 105)) = w1 at h1 h2 h3 h4 ⊢
 rw [show w.heap.size + 1 + 1 = w.heap.size + 2 from rfl]
 have H1 := Lib.hid (And.intro h1 (And.intro h2 (And.intro h3 h4)))
 clear h1 h2 h3 h4
 go_wp2_with fail
 go_loopw [5, 7, 6] (fun u i _ wr => ∃ n : Nat, n ≤ 17 ∧ i = .int .i64 (n : Int) ∧ u = .int .u32 ((plusP a b n).2 : Int) ∧ Blk wr w.heap.size 105 ((plusP a b n).1.map nv) ∧ Blk wr (w.heap.size + 1) 105 (b.map nv) ∧ Blk wr (w.heap.size + 2) 105 z17 ∧ Below w.heap.size w wr) (fun _ i _ _ => 17 - (intOf i).toNat)
 case atStart => exact ⟨0, by omega, rfl, rfl, H1.out.1, H1.out.2.1, H1.out.2.2.1, H1.out.2.2.2⟩
 case round =>
  clear H1
  obtain ⟨n, hn, rfl, rfl, hblk, hbb, hz, hbel⟩ := hrel
  by_cases hln : n < 17
  ·
   have d17 : decide ((n : Int) < 17) = true := by simp; omega
   have hlen : (plusP a b n).1.length = 17 := by rw [plusP_length]; exact HA.out.1
   have fx := hblk.dig n (by omega)
   have fy := hbb.dig n (by rw [HBB.out.1]; omega)
   have zx := hblk.frozen n
   have hu := plusP_carry a b HA.out.2 HBB.out.2 n (by rw [HA.out.1]; omega)
   have hd : dg (plusP a b n).1 n ≤ 255 := by rw [plusP_above a b n n (Nat.le_refl _) (by rw [HA.out.1]; omega)]; exact HA.out.2 n
   have hg := HBB.out.2 n
   have hnx : plusP a b (n + 1) = ((plusP a b n).1.set n (((plusP a b n).2 + (dg (plusP a b n).1 n + dg b n)) % 256), ((plusP a b n).2 + (dg (plusP a b n).1 n + dg b n)) / 256) := rfl
   generalize (plusP a b n).2 = u at hu hnx ⊢
   generalize hdd : dg (plusP a b n).1 n = d at fx hd hnx
   generalize dg b n = g at fy hg hnx
   have HNX := Lib.hid hnx
   have HB := Lib.hid (And.intro hblk (And.intro hbb (And.intro hz hbel)))
   clear hnx hblk hbb hz hbel hdd hlen
   obtain ⟨x, hx⟩ : ∃ x, d + g = x := ⟨_, rfl⟩
   obtain ⟨s, hs⟩ : ∃ s, u + x = s := ⟨_, rfl⟩
   have hx1 : ((d : Int) + (g : Int)) % 4294967296 = (x : Int) := by omega
   have hs1 : ((u : Int) + (x : Int)) % 4294967296 = (s : Int) := by omega
   obtain ⟨m, hmm⟩ : ∃ m, s % 256 = m := ⟨_, rfl⟩
   obtain ⟨q, hqq⟩ : ∃ q, s / 256 = q := ⟨_, rfl⟩
   have HS := Lib.hid (And.intro hx (And.intro hs (And.intro hmm hqq)))
   have hm : bits BinOp.and IntKind.u32 (s : Int) 255 = (m : Int) := by rw [← hmm]; exact and_mask s 8 (by omega) (by omega)
   have hq : (s : Int) / 256 = (q : Int) := by omega
   clear hs hmm hqq hu hd hg hx
   go_upto_region 5 with fail
   go_region
   (try simp only [hx1, hs1])
   go_wp2_with fail
   go_roundw
   case rel =>
    refine ⟨n + 1, by omega, by go_num, ?_, ?_, ?_, ?_, ?_⟩
    · rw [HNX.out, HS.out.1, HS.out.2.1, HS.out.2.2.2]
    ·
     rw [HNX.out, HS.out.1, HS.out.2.1, HS.out.2.2.1]
     exact HB.out.1.drew.setDig n m
    · exact HB.out.2.1.drew.far (by simp) _
    · exact HB.out.2.2.1.drew.far (by simp) _
    · exact HB.out.2.2.2.drew.setCell (by dsimp only; omega) _
   case measure => simp [intOf]; omega
  ·
   obtain rfl : n = 17 := by omega
   obtain ⟨lz, hlz⟩ : ∃ lz, plusN a b = lz := ⟨_, rfl⟩
   have HLz := Lib.hid (show lz.length = 17 by rw [← hlz, plusN_length]; exact HA.out.1)
   rw [show (plusP a b 17).1 = lz from hlz] at hblk
   have HZ := Lib.hid hlz
   have HB := Lib.hid (And.intro hblk (And.intro hz hbel))
   obtain ⟨cz, hcz⟩ : ∃ cz, (lz.map nv).toArray = cz := ⟨_, rfl⟩
   have HCZ := Lib.hid hcz
   clear hblk hz hbel hcz hlz hbb
   rw [show ((17 : Nat) : Int) = 17 from rfl]
   go_wp2_with (first | (refine wpList_load_blk rfl 105 (.tmp 2) rfl w.heap.size rfl 105 (lz.map nv) HB.out.1 17 28 Tryz.underlying105 (cells17 lz HLz.out) ?_; rw [HCZ.out]) | (refine wpList_store_blk rfl 105 (.tmp 4) (.tmp 26) rfl (w.heap.size + 2) (lz.map nv) rfl (by show Value.agg cz = _; rw [HCZ.out]) 105 z17 HB.out.2.1 (cells17 lz HLz.out) (by rw [List.length_map, HLz.out]; rfl) (nv_one _) ?_; intro w9 hb9 hg9))
   exact bodyPost_ret (results_blk rfl _ _ (w.heap.size + 2) 105 (lz.map nv) 17 28 rfl hb9 Tryz.underlying105 (cells17 lz HLz.out)) rfl ⟨by rw [HZ.out], below_blk HB.out.2.2 hg9 (by omega)⟩
/-- the first i digits of the product, then zeros -/
def rowC (a b : List Nat) (i : Nat) : List Nat := ((List.range i).map fun i => convI a b i 17) ++ List.replicate (17 - i) 0
theorem rowC_length (a b : List Nat) (i : Nat) (h : i ≤ 17) : (rowC a b i).length = 17 := by simp [rowC]; omega
theorem rowC_set (a b : List Nat) (i : Nat) (h : i < 17) : (rowC a b i).set i (convI a b i 17) = rowC a b (i + 1) := by
 unfold rowC
 rw [List.set_append_right _ _ (by simp), List.length_map, List.length_range, Nat.sub_self, show 17 - i = (17 - (i + 1)) + 1 by omega, List.replicate_succ, List.set_cons_zero, List.range_succ, List.map_append, List.append_assoc]
 rfl
theorem rowC_end (a b : List Nat) : rowC a b 17 = convN a b := by simp [rowC, convN]
set_option maxRecDepth 100000 in
set_option maxHeartbeats 2000000 in
theorem times_any (a b : List Nat) (ha : a.length = 17 ∧ ∀ i, dg a i ≤ 255) (hb : b.length = 17 ∧ ∀ i, dg b i ≤ 255) (w : World) :
 Calls Tryz.prog 78 #[.agg (a.map nv).toArray, .agg (b.map nv).toArray] w fun e w' => e = .returned (.agg ((timesN a b).map nv).toArray) ∧ Below w.heap.size w w' := by
 obtain ⟨ca, hca⟩ : ∃ ca, (a.map nv).toArray = ca := ⟨_, rfl⟩
 obtain ⟨cb, hcb⟩ : ∃ cb, (b.map nv).toArray = cb := ⟨_, rfl⟩
 rw [hca, hcb]
 have HB0 := Lib.hid (show Blk (w.alloc (.cells ca 105)) w.heap.size 105 (a.map nv) by rw [← hca]; exact Blk.new w _ _)
 have HB1 := Lib.hid (show Blk ((w.alloc (.cells ca 105)).alloc (.cells cb 105)) (w.heap.size + 1) 105 (b.map nv) by rw [← hcb]; exact Blk.new' _ (by simp) _ _)
 have HA := Lib.hid ha
 have HBB := Lib.hid hb
 clear ha hb
 go_enter Tryz.func78, Tryz.ntmps78
 go_upto_region 2 with fail
 have h1 := ((HB0.out.alloc (.cells cb 105)).alloc (.cells z17.toArray 105)).alloc (.cells z17.toArray 105)
 have h2 := (HB1.out.alloc (.cells z17.toArray 105)).alloc (.cells z17.toArray 105)
 have h3 : Blk ((((w.alloc (.cells ca 105)).alloc (.cells cb 105)).alloc (.cells z17.toArray 105)).alloc (.cells z17.toArray 105)) (w.heap.size + 2) 105 z17 := (Blk.new' ((w.alloc (.cells ca 105)).alloc (.cells cb 105)) (by simp) 105 z17).alloc _
 have h5 : Blk ((((w.alloc (.cells ca 105)).alloc (.cells cb 105)).alloc (.cells z17.toArray 105)).alloc (.cells z17.toArray 105)) (w.heap.size + 3) 105 z17 := Blk.new' _ (by simp) _ _
 have h4 : Below w.heap.size w ((((w.alloc (.cells ca 105)).alloc (.cells cb 105)).alloc (.cells z17.toArray 105)).alloc (.cells z17.toArray 105)) := ((((Below.refl _ _).alloc (Nat.le_refl _) _).alloc (by simp) _).alloc (by simp; omega) _).alloc (by simp; omega) _
 rw [z17_arr] at h1 h2 h3 h4 h5
 clear HB0 HB1 hca hcb
 generalize ((((w.alloc (.cells ca 105)).alloc (.cells cb 105)).alloc (.cells #[.int .u32 0, .int .u32 0, .int .u32 0, .int .u32 0, .int .u32 0, .int .u32 0, .int .u32 0, .int .u32 0, .int .u32 0, .int .u32 0, .int .u32 0, .int .u32 0, .int .u32 0, .int .u32 0, .int .u32 0, .int .u32 0, .int .u32 0] 105)).alloc (.cells #[.int .u32 0, .int .u32 0, .int .u32 0, .int .u32 0, .int .u32 0, .int .u32 0, .int .u32 0, .int .u32 0, .int .u32 0, .int .u32 0, .int .u32 0, .int .u32 0, .int .u32 0, .int .u32 0, .int .u32 0, .int .u32 0, .int .u32 0] 105)) = w1 at h1 h2 h3 h4 h5 ⊢
 rw [show w.heap.size + 1 + 1 = w.heap.size + 2 from rfl, show w.heap.size + 2 + 1 = w.heap.size + 3 from rfl]
 have H1 := Lib.hid (And.intro h1 (And.intro h2 (And.intro h3 (And.intro h5 h4))))
 clear h1 h2 h3 h4 h5
 go_wp2_with fail
 go_loopw [6, 7, 8] (fun v _ _ wr => ∃ i : Nat, i ≤ 17 ∧ v = .int .i64 (i : Int) ∧ Blk wr w.heap.size 105 (a.map nv) ∧ Blk wr (w.heap.size + 1) 105 (b.map nv) ∧ Blk wr (w.heap.size + 2) 105 z17 ∧ Blk wr (w.heap.size + 3) 105 ((rowC a b i).map nv) ∧ Below w.heap.size w wr) (fun v _ _ _ => 17 - (intOf v).toNat)
 case atStart => exact ⟨0, by omega, rfl, H1.out.1, H1.out.2.1, H1.out.2.2.1, H1.out.2.2.2.1, H1.out.2.2.2.2⟩
 case round =>
  clear H1
  obtain ⟨i, hi, rfl, ha, hb, hz, hr, hbel⟩ := hrel
  have HH := Lib.hid (And.intro ha (And.intro hb (And.intro hz (And.intro hr hbel))))
  clear ha hb hz hr hbel
  by_cases hil : i < 17
  ·
   have d17 : decide ((i : Int) < 17) = true := by simp; omega
   go_upto_region 7 with fail
   clear d17
   go_loopw [7, 8] (fun u v wr => ∃ n : Nat, n ≤ 17 ∧ v = .int .i64 (n : Int) ∧ u = .int .u32 (convI a b i n : Int) ∧ Blk wr w.heap.size 105 (a.map nv) ∧ Blk wr (w.heap.size + 1) 105 (b.map nv) ∧ Blk wr (w.heap.size + 2) 105 z17 ∧ Blk wr (w.heap.size + 3) 105 ((rowC a b i).map nv) ∧ Below w.heap.size w wr) (fun _ v _ => 17 - (intOf v).toNat)
   case atStart => exact ⟨0, by omega, rfl, rfl, HH.out.1, HH.out.2.1, HH.out.2.2.1, HH.out.2.2.2.1, HH.out.2.2.2.2⟩
   case round =>
    clear HH
    obtain ⟨n, hn, rfl, rfl, ha, hb, hz, hr, hbel⟩ := hrel
    have HH := Lib.hid (And.intro ha (And.intro hb (And.intro hz (And.intro hr hbel))))
    by_cases hln : n < 17
    ·
     have dn : decide ((n : Int) < 17) = true := by simp; omega
     have fx := ha.dig n (by rw [HA.out.1]; omega)
     have hd := HA.out.2 n
     have hu := convI_le a b HA.out.2 HBB.out.2 i n
     by_cases hni : n ≤ i
     ·
      have dl : decide ((n : Int) ≤ (i : Int)) = true := by simp; omega
      obtain ⟨t, ht⟩ : ∃ t, i - n = t := ⟨_, rfl⟩
      have hsb : (i : Int) - (n : Int) = (t : Int) := by omega
      have hsw : IntKind.i64.wrap ((i : Int) - (n : Int)) = (t : Int) := by rw [hsb]; exact IntWalk.i64_in _ (by omega)
      have bt : (t : Int) < 17 := by omega
      have fy := hb.dig t (by rw [HBB.out.1]; omega)
      have hg := HBB.out.2 t
      have hrot : rotB b n i = dg b t := by rw [rotB, if_pos hni, ht]
      have hmul := Nat.mul_le_mul hd hg
      obtain ⟨p, hp⟩ : ∃ p, dg a n * dg b t = p := ⟨_, rfl⟩
      obtain ⟨s, hs⟩ : ∃ s, convI a b i n + p = s := ⟨_, rfl⟩
      have HS := Lib.hid (show convI a b i n + dg a n * rotB b n i = s by rw [hrot, hp, hs])
      rw [hp] at hmul
      have hp1 : ((dg a n : Nat) : Int) * ((dg b t : Nat) : Int) = (p : Int) := by rw [← hp, Int.natCast_mul]
      have hp2 : (((dg a n : Nat) : Int) * ((dg b t : Nat) : Int)) % 4294967296 = (p : Int) := by rw [hp1]; omega
      have hs1 : (((convI a b i n : Nat) : Int) + (p : Int)) % 4294967296 = (s : Int) := by omega
      generalize convI a b i n = u at hu hs hs1 ⊢
      generalize dg a n = x at fx hd hp hp1 hp2
      generalize dg b t = y at fy hg hp hp1 hp2
      clear ha hb hz hr hbel hrot hp hs hu hd hg hmul ht hp1
      go_upto_region 10 with fail
      clear dn dl
      go_region
      (try simp only [hp2, hs1])
      clear fx fy hsb hsw bt hp2 hs1
      go_wp2_with fail
      go_roundw
      case rel => exact ⟨n + 1, by omega, by go_num, by rw [show convI a b i (n + 1) = convI a b i n + dg a n * rotB b n i from rfl, HS.out], HH.out.1.drew, HH.out.2.1.drew, HH.out.2.2.1.drew, HH.out.2.2.2.1.drew, HH.out.2.2.2.2.drew⟩
      case measure => simp [intOf]; omega
     ·
      have dl : decide ((n : Int) ≤ (i : Int)) = false := by simp; omega
      obtain ⟨t, ht⟩ : ∃ t, i + 17 - n = t := ⟨_, rfl⟩
      have hsb : (i : Int) + 17 - (n : Int) = (t : Int) := by omega
      have hi17 : IntKind.i64.wrap ((i : Int) + 17) = (i : Int) + 17 := IntWalk.i64_in _ (by omega)
      have hsw : IntKind.i64.wrap ((i : Int) + 17 - (n : Int)) = (t : Int) := by rw [hsb]; exact IntWalk.i64_in _ (by omega)
      have bt : (t : Int) < 17 := by omega
      have fy := hb.dig t (by rw [HBB.out.1]; omega)
      have hg := HBB.out.2 t
      have hrot : rotB b n i = 320 * dg b t := by rw [rotB, if_neg hni, ht]
      obtain ⟨z, hzz⟩ : ∃ z, 320 * dg a n = z := ⟨_, rfl⟩
      have hmul := Nat.mul_le_mul (show z ≤ 81600 by omega) hg
      obtain ⟨p, hp⟩ : ∃ p, z * dg b t = p := ⟨_, rfl⟩
      obtain ⟨s, hs⟩ : ∃ s, convI a b i n + p = s := ⟨_, rfl⟩
      have HS := Lib.hid (show convI a b i n + dg a n * rotB b n i = s by rw [hrot, ← hs, ← hp, ← hzz, ← Nat.mul_assoc, Nat.mul_comm (dg a n) 320])
      rw [hp] at hmul
      have hz1 : (320 * ((dg a n : Nat) : Int)) % 4294967296 = (z : Int) := by omega
      have hp1 : (z : Int) * ((dg b t : Nat) : Int) = (p : Int) := by rw [← hp, Int.natCast_mul]
      have hp2 : ((z : Int) * ((dg b t : Nat) : Int)) % 4294967296 = (p : Int) := by rw [hp1]; omega
      have hs1 : (((convI a b i n : Nat) : Int) + (p : Int)) % 4294967296 = (s : Int) := by omega
      generalize convI a b i n = u at hu hs hs1 ⊢
      generalize dg a n = x at fx hd hzz hz1
      generalize dg b t = y at fy hg hp hp1 hp2
      clear ha hb hz hr hbel hrot hp hs hu hd hg hmul ht hp1 hzz
      go_upto_region 11 with fail
      clear dn dl
      go_region
      (try simp only [hz1, hp2, hs1])
      clear fx fy hsb hsw bt hp2 hs1 hz1 hi17
      go_wp2_with fail
      go_roundw
      case rel => exact ⟨n + 1, by omega, by go_num, by rw [show convI a b i (n + 1) = convI a b i n + dg a n * rotB b n i from rfl, HS.out], HH.out.1.drew, HH.out.2.1.drew, HH.out.2.2.1.drew, HH.out.2.2.2.1.drew, HH.out.2.2.2.2.drew⟩
      case measure => simp [intOf]; omega
    ·
     obtain rfl : n = 17 := by omega
     have hrl := rowC_length a b i (by omega)
     have fx := hr.dig i (by omega)
     have zx := hr.frozen i
     have HB := Lib.hid (show Blk (wr.setCell ⟨w.heap.size + 3, i, none⟩ (.int .u32 ((convI a b i 17 : Nat) : Int))) w.heap.size 105 (a.map nv) ∧ Blk (wr.setCell ⟨w.heap.size + 3, i, none⟩ (.int .u32 ((convI a b i 17 : Nat) : Int))) (w.heap.size + 1) 105 (b.map nv) ∧ Blk (wr.setCell ⟨w.heap.size + 3, i, none⟩ (.int .u32 ((convI a b i 17 : Nat) : Int))) (w.heap.size + 2) 105 z17 ∧ Blk (wr.setCell ⟨w.heap.size + 3, i, none⟩ (.int .u32 ((convI a b i 17 : Nat) : Int))) (w.heap.size + 3) 105 ((rowC a b (i + 1)).map nv) ∧ Below w.heap.size w (wr.setCell ⟨w.heap.size + 3, i, none⟩ (.int .u32 ((convI a b i 17 : Nat) : Int))) from ⟨ha.far (by simp) _, hb.far (by simp) _, hz.far (by simp) _, by rw [← rowC_set a b i hil]; exact hr.setDig i _, hbel.setCell (by dsimp only; omega) _⟩)
     clear ha hb hz hr hbel HH hrl
     generalize convI a b i 17 = u at HB ⊢
     rw [show ((17 : Nat) : Int) = 17 from rfl]
     go_wp2_with fail
     go_roundw
     case rel => exact ⟨i + 1, by omega, by go_num, HB.out.1, HB.out.2.1, HB.out.2.2.1, HB.out.2.2.2.1, HB.out.2.2.2.2⟩
     case measure => simp [intOf]; omega
  ·
   obtain rfl : i = 17 := by omega
   have hr := HH.out.2.2.2.1
   rw [rowC_end] at hr
   have RC := reduced_any (convN a b) (convN_fits a b HA.out.2 HBB.out.2)
   have HCL := Lib.hid (convN_length a b)
   obtain ⟨lc, hlc⟩ : ∃ lc, convN a b = lc := ⟨_, rfl⟩
   obtain ⟨lz, hlz⟩ : ∃ lz, timesN a b = lz := ⟨_, rfl⟩
   rw [show redN (convN a b) = lz from hlz] at RC
   rw [hlc] at hr RC HCL
   have HLz := Lib.hid (show lz.length = 17 by rw [← hlz, timesN, redN_length, convN_length])
   have HZ := Lib.hid hlz
   obtain ⟨cc, hcc⟩ : ∃ cc, (lc.map nv).toArray = cc := ⟨_, rfl⟩
   obtain ⟨cz, hcz⟩ : ∃ cz, (lz.map nv).toArray = cz := ⟨_, rfl⟩
   rw [hcc, hcz] at RC
   have HCC := Lib.hid hcc
   have HCZ := Lib.hid hcz
   have HRC := Lib.hid RC
   have HB := Lib.hid (And.intro hr (And.intro HH.out.2.2.1 HH.out.2.2.2.2))
   clear hr hcc hcz RC hlz hlc HH
   rw [show ((17 : Nat) : Int) = 17 from rfl]
   go_wp2_with (refine wpList_load_blk rfl 105 (.tmp 5) rfl (w.heap.size + 3) rfl 105 (lc.map nv) HB.out.1 17 28 Tryz.underlying105 (cells17 lc HCL.out) ?_; rw [HCC.out])
   refine (HRC.out _).mono ?_
   rintro e w4 ⟨rfl, hb4⟩
   have HB4 := Lib.hid (And.intro (HB.out.2.1.below hb4 HB.out.2.1.lt) (HB.out.2.2.trans (hb4.mono HB.out.2.2.size)))
   clear hb4 HB
   go_wp2_with (refine wpList_store_blk rfl 105 (.tmp 4) (.tmp 48) rfl (w.heap.size + 2) (lz.map nv) rfl (by rw [HCZ.out]; rfl) 105 z17 HB4.out.1 (cells17 lz HLz.out) (by rw [List.length_map, HLz.out]; rfl) (nv_one _) ?_; intro w9 hb9 hg9)
   exact bodyPost_ret (results_blk rfl _ _ (w.heap.size + 2) 105 (lz.map nv) 17 28 rfl hb9 Tryz.underlying105 (cells17 lz HLz.out)) rfl ⟨by rw [HZ.out], below_blk HB4.out.2 hg9 (by omega)⟩
theorem minus_map : (minusN.map nv).toArray = #[.int .u32 5, .int .u32 0, .int .u32 0, .int .u32 0, .int .u32 0, .int .u32 0, .int .u32 0, .int .u32 0, .int .u32 0, .int .u32 0, .int .u32 0, .int .u32 0, .int .u32 0, .int .u32 0, .int .u32 0, .int .u32 0, .int .u32 252] := rfl
theorem minus_le : minusN.length = 17 ∧ ∀ i, dg minusN i ≤ 255 := ⟨rfl, fun i => by
 by_cases h : i < 17
 ·
  have : ∀ j : Fin 17, dg minusN j.val ≤ 255 := by decide
  exact this ⟨i, h⟩
 · rw [dg_high minusN i (by simp [minusN]; omega)]; omega⟩
set_option maxRecDepth 100000 in
set_option maxHeartbeats 2000000 in
theorem least_any (l : List Nat) (hf : fits l) (w : World) :
 Calls Tryz.prog 80 #[.agg (l.map nv).toArray] w fun e w' => e = .returned (.agg ((leastN l).map nv).toArray) ∧ Below w.heap.size w w' := by
 have RC := reduced_any l hf
 have ht := redN_tidy hf
 obtain ⟨r, hr⟩ : ∃ r, redN l = r := ⟨_, rfl⟩
 have hL : leastN l = if dg (lessN r) 16 &&& 128 = 0 then (lessN r).set 16 (dg (lessN r) 16 &&& 3) else r := by rw [← hr]; rfl
 rw [hr] at RC ht
 have PC := plus_any r minusN ⟨ht.1, tidy_le ht (by omega)⟩ minus_le
 have hgl : (lessN r).length = 17 := by rw [lessN, plusN_length]; exact ht.1
 have h255 := plusN_digits r minusN ht.1 16
 rw [show plusN r minusN = lessN r from rfl] at PC h255
 obtain ⟨g, hg⟩ : ∃ g, lessN r = g := ⟨_, rfl⟩
 rw [hg] at PC hgl h255 hL
 obtain ⟨cl, hcl⟩ : ∃ cl, (l.map nv).toArray = cl := ⟨_, rfl⟩
 obtain ⟨cr, hcr⟩ : ∃ cr, (r.map nv).toArray = cr := ⟨_, rfl⟩
 obtain ⟨cm, hcm⟩ : ∃ cm, (minusN.map nv).toArray = cm := ⟨_, rfl⟩
 obtain ⟨cg, hcg⟩ : ∃ cg, (g.map nv).toArray = cg := ⟨_, rfl⟩
 rw [hcl, hcr] at RC
 rw [hcr, hcm, hcg] at PC
 rw [hcl]
 have HB0 := Lib.hid (show Blk (w.alloc (.cells cl 105)) w.heap.size 105 (l.map nv) by rw [← hcl]; exact Blk.new w _ _)
 have HRL := Lib.hid ht.1
 have HGL := Lib.hid hgl
 have HLL := Lib.hid hf.1
 have HL := Lib.hid hL
 have HRC := Lib.hid RC
 have HPC := Lib.hid PC
 have HCR := Lib.hid hcr
 have HCL := Lib.hid hcl
 have HCM := Lib.hid hcm
 have HCG := Lib.hid hcg
 have HMM := Lib.hid minus_map
 clear hf RC ht hr hL PC hgl hg hcl hcr hcm hcg
 go_enter Tryz.func80, Tryz.ntmps80
 go_upto_region 1 with fail
 have h1 := HB0.out.alloc (.cells z17.toArray 105)
 have h2 : Blk ((w.alloc (.cells cl 105)).alloc (.cells z17.toArray 105)) (w.heap.size + 1) 105 z17 := Blk.new' _ (by simp) _ _
 have h3 : Below w.heap.size w ((w.alloc (.cells cl 105)).alloc (.cells z17.toArray 105)) := ((Below.refl _ _).alloc (Nat.le_refl _) _).alloc (by simp) _
 have h4 : ((w.alloc (.cells cl 105)).alloc (.cells z17.toArray 105)).heap.size = w.heap.size + 2 := by simp
 rw [z17_arr] at h1 h2 h3 h4
 clear HB0
 generalize ((w.alloc (.cells cl 105)).alloc (.cells #[.int .u32 0, .int .u32 0, .int .u32 0, .int .u32 0, .int .u32 0, .int .u32 0, .int .u32 0, .int .u32 0, .int .u32 0, .int .u32 0, .int .u32 0, .int .u32 0, .int .u32 0, .int .u32 0, .int .u32 0, .int .u32 0, .int .u32 0] 105)) = w1 at h1 h2 h3 h4 ⊢
 have H1 := Lib.hid (And.intro h1 (And.intro h2 (And.intro h3 (Nat.le_of_eq h4.symm))))
 clear h1 h2 h3 h4
 go_wp2_with (refine wpList_load_blk rfl 105 (.tmp 1) rfl w.heap.size rfl 105 (l.map nv) H1.out.1 17 28 Tryz.underlying105 (cells17 l HLL.out) ?_; rw [HCL.out])
 refine (HRC.out _).mono ?_
 rintro e w2 ⟨rfl, hb2⟩
 have H2 := Lib.hid (And.intro (H1.out.1.below hb2 H1.out.1.lt) (And.intro (H1.out.2.1.below hb2 H1.out.2.1.lt) (And.intro (H1.out.2.2.1.trans (hb2.mono H1.out.2.2.1.size)) (Nat.le_trans H1.out.2.2.2 hb2.size))))
 clear H1 hb2
 go_upto_region 2 with (refine wpList_store_blk rfl 105 (.tmp 1) (.tmp 6) rfl w.heap.size (r.map nv) rfl (by rw [HCR.out]; rfl) 105 (l.map nv) H2.out.1 (cells17 r HRL.out) (by rw [List.length_map, List.length_map, HLL.out, HRL.out]) (nv_one _) ?_; intro w3 hb3 hg3)
 simp only [Act.put]
 have H3 := Lib.hid (And.intro hb3 (And.intro (H2.out.2.1.grown hg3 (by simp)) (And.intro (below_blk H2.out.2.2.1 hg3 (Nat.le_refl _)) (Nat.le_trans H2.out.2.2.2 hg3.size))))
 clear H2 hb3 hg3
 go_upto_region 3 with (refine wpList_store_blk rfl 105 (.tmp 3) (.tmp 7) rfl w3.heap.size (minusN.map nv) rfl (by rw [HMM.out]; rfl) 105 z17 (Blk.new w3 105 z17) (cells17 minusN rfl) rfl (nv_one _) ?_; intro w4 hb4 hg4)
 simp only [Act.put]
 have H4 := Lib.hid (show Blk w4 w3.heap.size 105 (minusN.map nv) ∧ Blk w4 w.heap.size 105 (r.map nv) ∧ Blk w4 (w.heap.size + 1) 105 z17 ∧ Below w.heap.size w w4 ∧ w3.heap.size + 1 ≤ w4.heap.size by
  have h0 := H3.out.2.2.2
  exact ⟨hb4, (H3.out.1.alloc _).grown hg4 (by simp; omega), (H3.out.2.1.alloc _).grown hg4 (by simp; omega), Below.grown (H3.out.2.2.1.alloc (by omega) (.cells z17.toArray 105)) hg4 (by simp; omega) (by intro k hk; injection hk with hk; omega), by have := hg4.size; simpa using this⟩)
 have HP := Lib.hid H3.out.2.2.2
 clear H3 hb4 hg4
 generalize w3.heap.size = P at H4 HP ⊢
 go_wp2_with (first | (refine wpList_load_blk rfl 105 (.tmp 1) rfl w.heap.size rfl 105 (r.map nv) H4.out.2.1 17 28 Tryz.underlying105 (cells17 r HRL.out) ?_; rw [HCR.out]) | (refine wpList_load_blk rfl 105 (.tmp 3) rfl P rfl 105 (minusN.map nv) H4.out.1 17 28 Tryz.underlying105 (cells17 minusN rfl) ?_; rw [HCM.out]))
 refine (HPC.out _).mono ?_
 rintro e w5 ⟨rfl, hb5⟩
 have H5 := Lib.hid (show Blk w5 w.heap.size 105 (r.map nv) ∧ Blk w5 (w.heap.size + 1) 105 z17 ∧ Below w.heap.size w w5 ∧ w.heap.size + 2 ≤ w5.heap.size from ⟨H4.out.2.1.below hb5 H4.out.2.1.lt, H4.out.2.2.1.below hb5 H4.out.2.2.1.lt, H4.out.2.2.2.1.trans (hb5.mono H4.out.2.2.2.1.size), by have := hb5.size; have := H4.out.2.2.2.2; have := HP.out; omega⟩)
 clear H4 HP hb5
 go_upto_region 4 with (refine wpList_store_blk rfl 105 (.tmp 4) (.tmp 10) rfl w5.heap.size (g.map nv) rfl (by rw [HCG.out]; rfl) 105 z17 (Blk.new w5 105 z17) (cells17 g HGL.out) (by rw [List.length_map, HGL.out]; rfl) (nv_one _) ?_; intro w6 hb6 hg6)
 simp only [Act.put]
 have H6 := Lib.hid (show Blk w6 w5.heap.size 105 (g.map nv) ∧ Blk w6 w.heap.size 105 (r.map nv) ∧ Blk w6 (w.heap.size + 1) 105 z17 ∧ Below w.heap.size w w6 by
  have h0 := H5.out.2.2.2
  exact ⟨hb6, (H5.out.1.alloc _).grown hg6 (by simp; omega), (H5.out.2.1.alloc _).grown hg6 (by simp; omega), Below.grown (H5.out.2.2.1.alloc (by omega) (.cells z17.toArray 105)) hg6 (by simp; omega) (by intro k hk; injection hk with hk; omega)⟩)
 have HP := Lib.hid H5.out.2.2.2
 clear H5 hb6 hg6
 generalize w5.heap.size = P at H6 HP ⊢
 have fx := H6.out.1.dig 16 (by rw [HGL.out]; omega)
 have zx := H6.out.1.frozen 16
 obtain ⟨d, hd⟩ : ∃ d, dg g 16 = d := ⟨_, rfl⟩
 rw [hd] at fx h255
 replace HL := Lib.hid (show leastN l = if d &&& 128 = 0 then g.set 16 (d &&& 3) else r by rw [HL.out, hd])
 clear hd
 have h128 : bits BinOp.and IntKind.u32 (d : Int) 128 = ((d &&& 128 : Nat) : Int) := u32_and_nat d 128 (by omega) (by omega)
 have h3 : bits BinOp.and IntKind.u32 (d : Int) 3 = ((d &&& 3 : Nat) : Int) := u32_and_nat d 3 (by omega) (by omega)
 obtain ⟨b, hb⟩ : ∃ b, d &&& 128 = b := ⟨_, rfl⟩
 obtain ⟨m, hm⟩ : ∃ m, d &&& 3 = m := ⟨_, rfl⟩
 rw [hb] at h128
 rw [hm] at h3
 rw [hb, hm] at HL
 clear hb hm
 by_cases h0 : b = 0
 ·
  subst h0
  have hb0 : (((0 : Nat) : Int) == 0) = true := rfl
  replace h128 : bits BinOp.and IntKind.u32 (d : Int) 128 = 0 := h128
  have HLe := Lib.hid (show leastN l = g.set 16 m by rw [HL.out, if_pos rfl])
  have HSL := Lib.hid (show (g.set 16 m).length = 17 by rw [List.length_set]; exact HGL.out)
  have H7 := Lib.hid (show Blk (w6.setCell ⟨P, 16, none⟩ (.int .u32 (m : Int))) P 105 ((g.set 16 m).map nv) ∧ Blk (w6.setCell ⟨P, 16, none⟩ (.int .u32 (m : Int))) (w.heap.size + 1) 105 z17 ∧ Below w.heap.size w (w6.setCell ⟨P, 16, none⟩ (.int .u32 (m : Int))) from ⟨H6.out.1.setDig 16 m, H6.out.2.2.1.far (by have := HP.out; simp; omega) _, H6.out.2.2.2.setCell (by have := HP.out; dsimp only; omega) _⟩)
  clear H6
  generalize g.set 16 m = lz at H7 HLe HSL
  obtain ⟨cz, hcz⟩ : ∃ cz, (lz.map nv).toArray = cz := ⟨_, rfl⟩
  have HCZ := Lib.hid hcz
  clear hcz
  go_upto_region 6 with fail
  clear fx zx h128 h3
  generalize w6.setCell ⟨P, 16, none⟩ (.int .u32 (m : Int)) = w7 at H7 ⊢
  go_wp2_with (first | (refine wpList_load_blk rfl 105 (.tmp 4) rfl P rfl 105 (lz.map nv) H7.out.1 17 28 Tryz.underlying105 (cells17 lz HSL.out) ?_; rw [HCZ.out]) | (refine wpList_store_blk rfl 105 (.tmp 2) (.tmp 19) rfl (w.heap.size + 1) (lz.map nv) rfl (by show Value.agg cz = _; rw [HCZ.out]) 105 z17 H7.out.2.1 (cells17 lz HSL.out) (by rw [List.length_map, HSL.out]; rfl) (nv_one _) ?_; intro w9 hb9 hg9))
  exact bodyPost_ret (results_blk rfl _ _ (w.heap.size + 1) 105 (lz.map nv) 17 28 rfl hb9 Tryz.underlying105 (cells17 lz HSL.out)) rfl ⟨by rw [HLe.out], below_blk H7.out.2.2 hg9 (by omega)⟩
 ·
  have hb0 : ((b : Int) == 0) = false := by rw [beq_eq_false_iff_ne]; omega
  have HLe := Lib.hid (show leastN l = r by rw [HL.out, if_neg h0])
  clear zx h3
  go_wp2_with (first | (refine wpList_load_blk rfl 105 (.tmp 1) rfl w.heap.size rfl 105 (r.map nv) H6.out.2.1 17 28 Tryz.underlying105 (cells17 r HRL.out) ?_; rw [HCR.out]) | (refine wpList_store_blk rfl 105 (.tmp 2) (.tmp 20) rfl (w.heap.size + 1) (r.map nv) rfl (by show Value.agg cr = _; rw [HCR.out]) 105 z17 H6.out.2.2.1 (cells17 r HRL.out) (by rw [List.length_map, HRL.out]; rfl) (nv_one _) ?_; intro w9 hb9 hg9))
  exact bodyPost_ret (results_blk rfl _ _ (w.heap.size + 1) 105 (r.map nv) 17 28 rfl hb9 Tryz.underlying105 (cells17 r HRL.out)) rfl ⟨by rw [HLe.out], below_blk H6.out.2.2.2 hg9 (by omega)⟩
def rowG (f : Nat → Nat) (j : Nat) : List Nat := (List.range j).map f ++ List.replicate (17 - j) 0
theorem rowG_length (f : Nat → Nat) (j : Nat) (h : j ≤ 17) : (rowG f j).length = 17 := by simp [rowG]; omega
theorem rowG_zero (f : Nat → Nat) : rowG f 0 = List.replicate 17 0 := by simp [rowG]
theorem rowG_set (f : Nat → Nat) (j : Nat) (h : j < 17) : (rowG f j).set j (f j) = rowG f (j + 1) := by
 unfold rowG
 rw [List.set_append_right _ _ (by simp), List.length_map, List.length_range, Nat.sub_self, show 17 - j = (17 - (j + 1)) + 1 by omega, List.replicate_succ, List.set_cons_zero, List.range_succ, List.map_append, List.append_assoc]
 rfl
theorem rowG_dg (f : Nat → Nat) (j i : Nat) : dg (rowG f j) i = if i < j then f i else 0 := by
 unfold dg rowG
 simp only [List.getD, List.getElem?_append, List.length_map, List.length_range]
 split
 ·
  rename_i h
  simp [h]
 ·
  rw [List.getElem?_replicate]
  split <;> simp
theorem list_eq_dg {l m : List Nat} (hl : l.length = 17) (hm : m.length = 17) (h : ∀ i, i < 17 → dg l i = dg m i) : l = m := by
 apply List.ext_getElem (by omega)
 intro i h1 h2
 have := h i (by omega)
 simpa [dg, List.getD, h1, h2] using this
def kb (k : List UInt8) (i : Nat) : Nat := (k.getD i 0).toNat
/-- the seven clamps, one after the other -/
def clamp (l : List Nat) : List (Nat × Nat) → List Nat
 | [] => l
 | (i, m) :: r => clamp (l.set i (dg l i &&& m)) r
def clampsL : List (Nat × Nat) := [(3, 15), (4, 252), (7, 15), (8, 252), (11, 15), (12, 252), (15, 15)]
theorem clamp_length (l : List Nat) : ∀ c, (clamp l c).length = l.length := by
 intro c
 induction c generalizing l with
 | nil => rfl
 | cons x c ih => rw [clamp, ih, List.length_set]
theorem clamp_all (k : List UInt8) : clamp (rowG (kb k) 16) clampsL = rDig k := by
 refine list_eq_dg (by rw [clamp_length, rowG_length _ _ (by omega)]) (rDig_le k).1 fun i hi => ?_
 have hr : dg (rDig k) i = clampD k i := by simp [dg, rDig, List.getD, hi]
 rw [hr]
 have hlen := rowG_length (kb k) 16 (by omega)
 simp only [clampsL, clamp]
 simp only [dg_set, List.length_set, hlen, rowG_dg, show (3 : Nat) < 17 by decide, show (4 : Nat) < 17 by decide, show (7 : Nat) < 17 by decide, show (8 : Nat) < 17 by decide, show (11 : Nat) < 17 by decide, show (12 : Nat) < 17 by decide, show (15 : Nat) < 17 by decide]
 have hc : i = 0 ∨ i = 1 ∨ i = 2 ∨ i = 3 ∨ i = 4 ∨ i = 5 ∨ i = 6 ∨ i = 7 ∨ i = 8 ∨ i = 9 ∨ i = 10 ∨ i = 11 ∨ i = 12 ∨ i = 13 ∨ i = 14 ∨ i = 15 ∨ i = 16 := by omega
 rcases hc with rfl | rfl | rfl | rfl | rfl | rfl | rfl | rfl | rfl | rfl | rfl | rfl | rfl | rfl | rfl | rfl | rfl <;> simp [clampD, kb]
theorem cDig_row (p : List UInt8) (h : p.length ≤ 16) : (rowG (kb p) p.length).set p.length 1 = cDig p := by
 refine list_eq_dg (by rw [List.length_set, rowG_length _ _ (by omega)]) (cDig_le p h).1 fun i hi => ?_
 rw [dg_set _ _ _ _ (by rw [rowG_length _ _ (by omega)]; omega), rowG_dg]
 unfold dg cDig kb
 simp only [List.getD, List.getElem?_append, List.length_map]
 by_cases e : i = p.length
 · subst e; simp
 ·
  rw [if_neg e]
  by_cases h1 : i < p.length
  · rw [if_pos h1, if_pos h1]; simp [h1]
  ·
   obtain ⟨t, ht⟩ : ∃ t, i - p.length = t + 1 := ⟨i - p.length - 1, by omega⟩
   rw [if_neg h1, if_neg h1, ht, List.getElem?_cons_succ, List.getElem?_replicate]
   split <;> simp
def sDig (k : List UInt8) : List Nat := rowG (fun i => kb k (16 + i)) 16
theorem sDig_le (k : List UInt8) : (sDig k).length = 17 ∧ ∀ i, dg (sDig k) i ≤ 255 := ⟨rowG_length _ _ (by omega), fun i => by
 rw [sDig, rowG_dg]
 split
 ·
  have := (k.getD (16 + i) 0).toNat_lt
  unfold kb
  omega
 · omega⟩
theorem sDig_val (k : List UInt8) : valN (sDig k) = sN k := by
 refine valN_bytes _ _ (by simp; omega) fun i hi => ?_
 rw [sDig, rowG_dg]
 by_cases h : i < 16
 ·
  rw [if_pos h]
  simp [kb, List.getD, h]
 ·
  rw [if_neg h]
  simp [List.getD, List.getElem?_take, h]
def rowO (l : List Nat) (j : Nat) : List UInt8 := (List.range j).map (fun i => UInt8.ofNat (dg l i)) ++ List.replicate (16 - j) 0
theorem rowO_length (l : List Nat) (j : Nat) (h : j ≤ 16) : (rowO l j).length = 16 := by simp [rowO]; omega
theorem rowO_zero (l : List Nat) : rowO l 0 = List.replicate 16 0 := by simp [rowO]
theorem rowO_set (l : List Nat) (j : Nat) (h : j < 16) : (rowO l j).set j (UInt8.ofNat (dg l j)) = rowO l (j + 1) := by
 unfold rowO
 rw [List.set_append_right _ _ (by simp), List.length_map, List.length_range, Nat.sub_self, show 16 - j = (16 - (j + 1)) + 1 by omega, List.replicate_succ, List.set_cons_zero, List.range_succ, List.map_append, List.append_assoc]
 rfl
theorem rowO_end (l : List Nat) (hd : ∀ i, dg l i ≤ 255) : rowO l 16 = littleL (valN l) 16 := by
 rw [← bytes_of_val l hd]
 simp [rowO]
theorem u8v_dig (d : Nat) (h : d ≤ 255) : u8v (UInt8.ofNat d) = .int .u8 (d : Int) := by
 rw [u8v, UInt8.toNat_ofNat', Nat.mod_eq_of_lt (by omega)]
/-- what the last sum gives -/
theorem tag_end (k data : List UInt8) (hd : List Nat) (h3 : tidy hd 3) (hv : valN hd % primeP = accI (rN k) data ((data.length + 15) / 16)) :
 rowO (plusN (leastN hd) (sDig k)) 16 = tagL k data := by
 have hf := h3.fits (by omega)
 have hl := leastN_le hf
 rw [rowO_end _ (plusN_digits _ _ hl.1), plusN_val _ _ hl.1, leastN_val hf, hv, sDig_val k]
 have h1 := accI_lt (rN k) data ((data.length + 15) / 16)
 have h2 : sN k < 256 ^ ((k.drop 16).take 16).length := numL_lt _
 have h4 : 256 ^ ((k.drop 16).take 16).length ≤ 256 ^ 16 := Nat.pow_le_pow_right (by omega) (List.length_take_le 16 _)
 have hp : primeP = 1361129467683753853853498429727072845819 := rfl
 have hq : (256 : Nat) ^ 16 = 340282366920938463463374607431768211456 := by decide
 have hq2 : (256 : Nat) ^ 17 = 87112285931760246646623899502532662132736 := by decide
 rw [Nat.mod_eq_of_lt]
 · rfl
 ·
  rw [hq2]
  rw [hp] at h1
  rw [hq] at h4
  omega
end Go.Proofs.YtlddafkikkaonaaGreatDoor
