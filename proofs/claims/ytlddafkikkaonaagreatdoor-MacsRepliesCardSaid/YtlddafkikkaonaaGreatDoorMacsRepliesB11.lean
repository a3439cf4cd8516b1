/-
  The contract of the reference's Poly: the authenticator. The contracts of the reference's short, XSeal and XOpen. The contracts of the reference's XSeal and XOpen. What is asked of an encoder whose bytes lie in memory of its own. Bytes in memory of the call, of a row, and with a wider range. No statement is proved here.
-/
import Derived.Test.YtlddafkikkaonaaGreatDoorMacsRepliesB10
namespace Go.Proofs.YtlddafkikkaonaaGreatDoor
open Go.RowKit
theorem z_dg (i : Nat) : dg (List.replicate 17 0) i = 0 := by
 rw [← rowG_zero (fun _ => 0), rowG_dg]
 simp
theorem z_val : valN (List.replicate 17 0) % primeP = 0 := by decide
def lenOf : Value → Nat
 | .slice _ n _ => n
 | _ => 0
theorem Blk.key {w : World} {g : Nat} {t : TypeId} {k : List UInt8} (h : Blk w g t (k.map u8v)) (i : Nat) (hi : i < k.length) : w.cell? ⟨g, i, none⟩ = some (.int .u8 (kb k i : Int)) := by
 rw [h.cell i, map_u8v_getElem? k i hi]
 simp [kb, List.getD, hi]
set_option maxRecDepth 100000 in
set_option maxHeartbeats 8000000 in
theorem refPoly_any (k : List UInt8) (hk : k.length = 32) (D : Option Addr) (n cap : Nat) (l : List UInt8) (hnc : n ≤ cap) (hcm : cap ≤ maxLen) (w : World) (hr : Rd w w.heap.size D n l) :
 Calls Tryz.prog 64 #[.agg (k.map u8v).toArray, .slice D n cap] w fun e w' => e = .returned (.agg ((tagL k l).map u8v).toArray) ∧ Below w.heap.size w w' := by
 obtain ⟨ck, hck⟩ : ∃ ck, (k.map u8v).toArray = ck := ⟨_, rfl⟩
 rw [hck]
 have HB0 := Lib.hid (show Blk (w.alloc (.cells ck 23)) w.heap.size 23 (k.map u8v) by rw [← hck]; exact Blk.new w _ _)
 have HK := Lib.hid hk
 have HR := Lib.hid hr
 have HLN := Lib.hid hr.1
 clear hk hck hr
 go_enter Tryz.func64, Tryz.ntmps64
 go_upto_region 2 with fail
 have h1 := ((HB0.out.alloc (.cells zT.toArray 27)).alloc (.cells z17.toArray 105)).alloc (.cells z17.toArray 105)
 have h2 : Blk ((((w.alloc (.cells ck 23)).alloc (.cells zT.toArray 27)).alloc (.cells z17.toArray 105)).alloc (.cells z17.toArray 105)) (w.heap.size + 1) 27 zT := ((Blk.new' (w.alloc (.cells ck 23)) (by simp) 27 zT).alloc _).alloc _
 have h3 : Blk ((((w.alloc (.cells ck 23)).alloc (.cells zT.toArray 27)).alloc (.cells z17.toArray 105)).alloc (.cells z17.toArray 105)) (w.heap.size + 2) 105 z17 := (Blk.new' ((w.alloc (.cells ck 23)).alloc (.cells zT.toArray 27)) (by simp) 105 z17).alloc _
 have h4 : Blk ((((w.alloc (.cells ck 23)).alloc (.cells zT.toArray 27)).alloc (.cells z17.toArray 105)).alloc (.cells z17.toArray 105)) (w.heap.size + 3) 105 z17 := Blk.new' _ (by simp) _ _
 have h5 : Below w.heap.size w ((((w.alloc (.cells ck 23)).alloc (.cells zT.toArray 27)).alloc (.cells z17.toArray 105)).alloc (.cells z17.toArray 105)) := ((((Below.refl _ _).alloc (Nat.le_refl _) _).alloc (by simp) _).alloc (by simp; omega) _).alloc (by simp; omega) _
 have h6 : w.heap.size + 4 ≤ ((((w.alloc (.cells ck 23)).alloc (.cells zT.toArray 27)).alloc (.cells z17.toArray 105)).alloc (.cells z17.toArray 105)).heap.size := by simp
 rw [z17_arr, zT_arr] at h1 h2 h3 h4 h5 h6
 clear HB0
 generalize ((((w.alloc (.cells ck 23)).alloc (.cells zb16 27)).alloc (.cells #[.int .u32 0, .int .u32 0, .int .u32 0, .int .u32 0, .int .u32 0, .int .u32 0, .int .u32 0, .int .u32 0, .int .u32 0, .int .u32 0, .int .u32 0, .int .u32 0, .int .u32 0, .int .u32 0, .int .u32 0, .int .u32 0, .int .u32 0] 105)).alloc (.cells #[.int .u32 0, .int .u32 0, .int .u32 0, .int .u32 0, .int .u32 0, .int .u32 0, .int .u32 0, .int .u32 0, .int .u32 0, .int .u32 0, .int .u32 0, .int .u32 0, .int .u32 0, .int .u32 0, .int .u32 0, .int .u32 0, .int .u32 0] 105)) = w1 at h1 h2 h3 h4 h5 h6 ⊢
 rw [show w.heap.size + 1 + 1 = w.heap.size + 2 from rfl, show w.heap.size + 2 + 1 = w.heap.size + 3 from rfl]
 have H1 := Lib.hid (And.intro h1 (And.intro h2 (And.intro h3 (And.intro h4 (And.intro h5 h6)))))
 clear h1 h2 h3 h4 h5 h6
 go_wp2_with fail
 go_loopw [7] (fun v wr => ∃ j : Nat, j ≤ 16 ∧ v = .int .i64 (j : Int) ∧ Blk wr (w.heap.size + 2) 105 ((rowG (kb k) j).map nv) ∧ Blk wr w.heap.size 23 (k.map u8v) ∧ Blk wr (w.heap.size + 1) 27 zT ∧ Blk wr (w.heap.size + 3) 105 z17 ∧ Below w.heap.size w wr ∧ w.heap.size + 4 ≤ wr.heap.size) (fun v _ => 16 - (intOf v).toNat)
 case atStart => exact ⟨0, by omega, rfl, by rw [rowG_zero, ← z17_map]; exact H1.out.2.2.1, H1.out.1, H1.out.2.1, H1.out.2.2.2.1, H1.out.2.2.2.2.1, H1.out.2.2.2.2.2⟩
 case round =>
  clear H1
  obtain ⟨j, hj, rfl, hr, hk, hg, hh, hbel, hsz⟩ := hrel
  by_cases hlt : j < 16
  ·
   have d16 : decide ((j : Int) < 16) = true := by simp; omega
   have fk := hk.key j (by rw [HK.out]; omega)
   have fx := hr.dig j (by rw [rowG_length _ _ (by omega)]; omega)
   have zx := hr.frozen j
   obtain ⟨b, hb⟩ : ∃ b, kb k j = b := ⟨_, rfl⟩
   have hb256 : b < 256 := by rw [← hb]; exact (k.getD j 0).toNat_lt
   rw [hb] at fk
   have HN := Lib.hid (show Blk (wr.setCell ⟨w.heap.size + 2, j, none⟩ (.int .u32 (b : Int))) (w.heap.size + 2) 105 ((rowG (kb k) (j + 1)).map nv) ∧ Blk (wr.setCell ⟨w.heap.size + 2, j, none⟩ (.int .u32 (b : Int))) w.heap.size 23 (k.map u8v) ∧ Blk (wr.setCell ⟨w.heap.size + 2, j, none⟩ (.int .u32 (b : Int))) (w.heap.size + 1) 27 zT ∧ Blk (wr.setCell ⟨w.heap.size + 2, j, none⟩ (.int .u32 (b : Int))) (w.heap.size + 3) 105 z17 ∧ Below w.heap.size w (wr.setCell ⟨w.heap.size + 2, j, none⟩ (.int .u32 (b : Int))) ∧ w.heap.size + 4 ≤ (wr.setCell ⟨w.heap.size + 2, j, none⟩ (.int .u32 (b : Int))).heap.size from ⟨by rw [← rowG_set (kb k) j (by omega), hb]; exact hr.setDig j b, hk.far (by simp) _, hg.far (by simp) _, hh.far (by simp) _, hbel.setCell (by dsimp only; omega) _, by simpa [World.setCell] using hsz⟩)
   clear hr hk hg hh hbel hsz hb
   have hbm : (b : Int) % 4294967296 = (b : Int) := by omega
   go_wp2_with fail
   go_roundw
   case rel => exact ⟨j + 1, by omega, by go_num, HN.out⟩
   case measure => simp [intOf]; omega
  ·
   obtain rfl : j = 16 := by omega
   have H2 := Lib.hid (show Blk wr w.heap.size 23 (k.map u8v) ∧ Blk wr (w.heap.size + 1) 27 zT ∧ Blk wr (w.heap.size + 3) 105 z17 ∧ Below w.heap.size w wr ∧ w.heap.size + 4 ≤ wr.heap.size from ⟨hk, hg, hh, hbel, hsz⟩)
   clear hk hg hh hbel hsz
   obtain ⟨r0, hr0⟩ : ∃ r0, rowG (kb k) 16 = r0 := ⟨_, rfl⟩
   have hcl := clamp_all k
   rw [hr0] at hr hcl
   have hl0 : r0.length = 17 := by rw [← hr0, rowG_length _ _ (by omega)]
   have hle0 : ∀ i, dg r0 i ≤ 255 := fun i => by
    rw [← hr0, rowG_dg]
    split
    ·
     have := (k.getD i 0).toNat_lt
     unfold kb
     omega
    · omega
   clear hr0
   rw [show ((16 : Nat) : Int) = 16 from rfl]
   go_upto_region 6 with fail
   have fx := hr.dig 3 (by omega)
   have zx := hr.frozen 3
   obtain ⟨x0, hx⟩ : ∃ x, dg r0 3 &&& 15 = x := ⟨_, rfl⟩
   have ha : bits BinOp.and IntKind.u32 ((dg r0 3 : Nat) : Int) 15 = (x0 : Int) := by rw [← hx]; exact u32_and_nat (dg r0 3) 15 (by have := hle0 3; omega) (by omega)
   obtain ⟨r1, hr1⟩ : ∃ r, r0.set 3 x0 = r := ⟨_, rfl⟩
   have hle1 : ∀ i, dg r1 i ≤ 255 := fun i => by
    rw [← hr1, dg_set _ _ _ _ (by omega)]
    split
    ·
     have := Nat.and_le_left (n := dg r0 3) (m := 15)
     have := hle0 3
     omega
    · exact hle0 i
   have hl1 : r1.length = 17 := by rw [← hr1, List.length_set]; exact hl0
   have hn := hr.setDig 3 x0
   rw [hr1] at hn
   replace H2 := Lib.hid (show Blk (wr.setCell ⟨w.heap.size + 2, 3, none⟩ (.int .u32 (x0 : Int))) w.heap.size 23 (k.map u8v) ∧ Blk (wr.setCell ⟨w.heap.size + 2, 3, none⟩ (.int .u32 (x0 : Int))) (w.heap.size + 1) 27 zT ∧ Blk (wr.setCell ⟨w.heap.size + 2, 3, none⟩ (.int .u32 (x0 : Int))) (w.heap.size + 3) 105 z17 ∧ Below w.heap.size w (wr.setCell ⟨w.heap.size + 2, 3, none⟩ (.int .u32 (x0 : Int))) ∧ w.heap.size + 4 ≤ (wr.setCell ⟨w.heap.size + 2, 3, none⟩ (.int .u32 (x0 : Int))).heap.size from ⟨H2.out.1.far (by simp) _, H2.out.2.1.far (by simp) _, H2.out.2.2.1.far (by simp) _, H2.out.2.2.2.1.setCell (by dsimp only; omega) _, by have := H2.out.2.2.2.2; simpa [World.setCell] using this⟩)
   have HX0 := Lib.hid (And.intro hx hr1)
   have HLE := Lib.hid (And.intro hle1 hl1)
   have HN := Lib.hid hn
   clear hr hx hr1 hle0 hl0 hle1 hl1 hn 
   go_upto_region 7 with fail
   clear fx zx ha
   generalize wr.setCell ⟨w.heap.size + 2, 3, none⟩ (.int .u32 (x0 : Int)) = W1 at H2 HN ⊢
   have hr := HN.out
   obtain ⟨hle1, hl1⟩ := HLE.out
   clear HN HLE
   have fx := hr.dig 4 (by omega)
   have zx := hr.frozen 4
   obtain ⟨x1, hx⟩ : ∃ x, dg r1 4 &&& 252 = x := ⟨_, rfl⟩
   have ha : bits BinOp.and IntKind.u32 ((dg r1 4 : Nat) : Int) 252 = (x1 : Int) := by rw [← hx]; exact u32_and_nat (dg r1 4) 252 (by have := hle1 4; omega) (by omega)
   obtain ⟨r2, hr2⟩ : ∃ r, r1.set 4 x1 = r := ⟨_, rfl⟩
   have hle2 : ∀ i, dg r2 i ≤ 255 := fun i => by
    rw [← hr2, dg_set _ _ _ _ (by omega)]
    split
    ·
     have := Nat.and_le_left (n := dg r1 4) (m := 252)
     have := hle1 4
     omega
    · exact hle1 i
   have hl2 : r2.length = 17 := by rw [← hr2, List.length_set]; exact hl1
   have hn := hr.setDig 4 x1
   rw [hr2] at hn
   replace H2 := Lib.hid (show Blk (W1.setCell ⟨w.heap.size + 2, 4, none⟩ (.int .u32 (x1 : Int))) w.heap.size 23 (k.map u8v) ∧ Blk (W1.setCell ⟨w.heap.size + 2, 4, none⟩ (.int .u32 (x1 : Int))) (w.heap.size + 1) 27 zT ∧ Blk (W1.setCell ⟨w.heap.size + 2, 4, none⟩ (.int .u32 (x1 : Int))) (w.heap.size + 3) 105 z17 ∧ Below w.heap.size w (W1.setCell ⟨w.heap.size + 2, 4, none⟩ (.int .u32 (x1 : Int))) ∧ w.heap.size + 4 ≤ (W1.setCell ⟨w.heap.size + 2, 4, none⟩ (.int .u32 (x1 : Int))).heap.size from ⟨H2.out.1.far (by simp) _, H2.out.2.1.far (by simp) _, H2.out.2.2.1.far (by simp) _, H2.out.2.2.2.1.setCell (by dsimp only; omega) _, by have := H2.out.2.2.2.2; simpa [World.setCell] using this⟩)
   have HX1 := Lib.hid (And.intro hx hr2)
   have HLE := Lib.hid (And.intro hle2 hl2)
   have HN := Lib.hid hn
   clear hr hx hr2 hle1 hl1 hle2 hl2 hn 
   go_upto_region 8 with fail
   clear fx zx ha
   generalize W1.setCell ⟨w.heap.size + 2, 4, none⟩ (.int .u32 (x1 : Int)) = W2 at H2 HN ⊢
   have hr := HN.out
   obtain ⟨hle2, hl2⟩ := HLE.out
   clear HN HLE
   have fx := hr.dig 7 (by omega)
   have zx := hr.frozen 7
   obtain ⟨x2, hx⟩ : ∃ x, dg r2 7 &&& 15 = x := ⟨_, rfl⟩
   have ha : bits BinOp.and IntKind.u32 ((dg r2 7 : Nat) : Int) 15 = (x2 : Int) := by rw [← hx]; exact u32_and_nat (dg r2 7) 15 (by have := hle2 7; omega) (by omega)
   obtain ⟨r3, hr3⟩ : ∃ r, r2.set 7 x2 = r := ⟨_, rfl⟩
   have hle3 : ∀ i, dg r3 i ≤ 255 := fun i => by
    rw [← hr3, dg_set _ _ _ _ (by omega)]
    split
    ·
     have := Nat.and_le_left (n := dg r2 7) (m := 15)
     have := hle2 7
     omega
    · exact hle2 i
   have hl3 : r3.length = 17 := by rw [← hr3, List.length_set]; exact hl2
   have hn := hr.setDig 7 x2
   rw [hr3] at hn
   replace H2 := Lib.hid (show Blk (W2.setCell ⟨w.heap.size + 2, 7, none⟩ (.int .u32 (x2 : Int))) w.heap.size 23 (k.map u8v) ∧ Blk (W2.setCell ⟨w.heap.size + 2, 7, none⟩ (.int .u32 (x2 : Int))) (w.heap.size + 1) 27 zT ∧ Blk (W2.setCell ⟨w.heap.size + 2, 7, none⟩ (.int .u32 (x2 : Int))) (w.heap.size + 3) 105 z17 ∧ Below w.heap.size w (W2.setCell ⟨w.heap.size + 2, 7, none⟩ (.int .u32 (x2 : Int))) ∧ w.heap.size + 4 ≤ (W2.setCell ⟨w.heap.size + 2, 7, none⟩ (.int .u32 (x2 : Int))).heap.size from ⟨H2.out.1.far (by simp) _, H2.out.2.1.far (by simp) _, H2.out.2.2.1.far (by simp) _, H2.out.2.2.2.1.setCell (by dsimp only; omega) _, by have := H2.out.2.2.2.2; simpa [World.setCell] using this⟩)
   have HX2 := Lib.hid (And.intro hx hr3)
   have HLE := Lib.hid (And.intro hle3 hl3)
   have HN := Lib.hid hn
   clear hr hx hr3 hle2 hl2 hle3 hl3 hn 
   go_upto_region 9 with fail
   clear fx zx ha
   generalize W2.setCell ⟨w.heap.size + 2, 7, none⟩ (.int .u32 (x2 : Int)) = W3 at H2 HN ⊢
   have hr := HN.out
   obtain ⟨hle3, hl3⟩ := HLE.out
   clear HN HLE
   have fx := hr.dig 8 (by omega)
   have zx := hr.frozen 8
   obtain ⟨x3, hx⟩ : ∃ x, dg r3 8 &&& 252 = x := ⟨_, rfl⟩
   have ha : bits BinOp.and IntKind.u32 ((dg r3 8 : Nat) : Int) 252 = (x3 : Int) := by rw [← hx]; exact u32_and_nat (dg r3 8) 252 (by have := hle3 8; omega) (by omega)
   obtain ⟨r4, hr4⟩ : ∃ r, r3.set 8 x3 = r := ⟨_, rfl⟩
   have hle4 : ∀ i, dg r4 i ≤ 255 := fun i => by
    rw [← hr4, dg_set _ _ _ _ (by omega)]
    split
    ·
     have := Nat.and_le_left (n := dg r3 8) (m := 252)
     have := hle3 8
     omega
    · exact hle3 i
   have hl4 : r4.length = 17 := by rw [← hr4, List.length_set]; exact hl3
   have hn := hr.setDig 8 x3
   rw [hr4] at hn
   replace H2 := Lib.hid (show Blk (W3.setCell ⟨w.heap.size + 2, 8, none⟩ (.int .u32 (x3 : Int))) w.heap.size 23 (k.map u8v) ∧ Blk (W3.setCell ⟨w.heap.size + 2, 8, none⟩ (.int .u32 (x3 : Int))) (w.heap.size + 1) 27 zT ∧ Blk (W3.setCell ⟨w.heap.size + 2, 8, none⟩ (.int .u32 (x3 : Int))) (w.heap.size + 3) 105 z17 ∧ Below w.heap.size w (W3.setCell ⟨w.heap.size + 2, 8, none⟩ (.int .u32 (x3 : Int))) ∧ w.heap.size + 4 ≤ (W3.setCell ⟨w.heap.size + 2, 8, none⟩ (.int .u32 (x3 : Int))).heap.size from ⟨H2.out.1.far (by simp) _, H2.out.2.1.far (by simp) _, H2.out.2.2.1.far (by simp) _, H2.out.2.2.2.1.setCell (by dsimp only; omega) _, by have := H2.out.2.2.2.2; simpa [World.setCell] using this⟩)
   have HX3 := Lib.hid (And.intro hx hr4)
   have HLE := Lib.hid (And.intro hle4 hl4)
   have HN := Lib.hid hn
   clear hr hx hr4 hle3 hl3 hle4 hl4 hn 
   go_upto_region 10 with fail
   clear fx zx ha
   generalize W3.setCell ⟨w.heap.size + 2, 8, none⟩ (.int .u32 (x3 : Int)) = W4 at H2 HN ⊢
   have hr := HN.out
   obtain ⟨hle4, hl4⟩ := HLE.out
   clear HN HLE
   have fx := hr.dig 11 (by omega)
   have zx := hr.frozen 11
   obtain ⟨x4, hx⟩ : ∃ x, dg r4 11 &&& 15 = x := ⟨_, rfl⟩
   have ha : bits BinOp.and IntKind.u32 ((dg r4 11 : Nat) : Int) 15 = (x4 : Int) := by rw [← hx]; exact u32_and_nat (dg r4 11) 15 (by have := hle4 11; omega) (by omega)
   obtain ⟨r5, hr5⟩ : ∃ r, r4.set 11 x4 = r := ⟨_, rfl⟩
   have hle5 : ∀ i, dg r5 i ≤ 255 := fun i => by
    rw [← hr5, dg_set _ _ _ _ (by omega)]
    split
    ·
     have := Nat.and_le_left (n := dg r4 11) (m := 15)
     have := hle4 11
     omega
    · exact hle4 i
   have hl5 : r5.length = 17 := by rw [← hr5, List.length_set]; exact hl4
   have hn := hr.setDig 11 x4
   rw [hr5] at hn
   replace H2 := Lib.hid (show Blk (W4.setCell ⟨w.heap.size + 2, 11, none⟩ (.int .u32 (x4 : Int))) w.heap.size 23 (k.map u8v) ∧ Blk (W4.setCell ⟨w.heap.size + 2, 11, none⟩ (.int .u32 (x4 : Int))) (w.heap.size + 1) 27 zT ∧ Blk (W4.setCell ⟨w.heap.size + 2, 11, none⟩ (.int .u32 (x4 : Int))) (w.heap.size + 3) 105 z17 ∧ Below w.heap.size w (W4.setCell ⟨w.heap.size + 2, 11, none⟩ (.int .u32 (x4 : Int))) ∧ w.heap.size + 4 ≤ (W4.setCell ⟨w.heap.size + 2, 11, none⟩ (.int .u32 (x4 : Int))).heap.size from ⟨H2.out.1.far (by simp) _, H2.out.2.1.far (by simp) _, H2.out.2.2.1.far (by simp) _, H2.out.2.2.2.1.setCell (by dsimp only; omega) _, by have := H2.out.2.2.2.2; simpa [World.setCell] using this⟩)
   have HX4 := Lib.hid (And.intro hx hr5)
   have HLE := Lib.hid (And.intro hle5 hl5)
   have HN := Lib.hid hn
   clear hr hx hr5 hle4 hl4 hle5 hl5 hn 
   go_upto_region 11 with fail
   clear fx zx ha
   generalize W4.setCell ⟨w.heap.size + 2, 11, none⟩ (.int .u32 (x4 : Int)) = W5 at H2 HN ⊢
   have hr := HN.out
   obtain ⟨hle5, hl5⟩ := HLE.out
   clear HN HLE
   have fx := hr.dig 12 (by omega)
   have zx := hr.frozen 12
   obtain ⟨x5, hx⟩ : ∃ x, dg r5 12 &&& 252 = x := ⟨_, rfl⟩
   have ha : bits BinOp.and IntKind.u32 ((dg r5 12 : Nat) : Int) 252 = (x5 : Int) := by rw [← hx]; exact u32_and_nat (dg r5 12) 252 (by have := hle5 12; omega) (by omega)
   obtain ⟨r6, hr6⟩ : ∃ r, r5.set 12 x5 = r := ⟨_, rfl⟩
   have hle6 : ∀ i, dg r6 i ≤ 255 := fun i => by
    rw [← hr6, dg_set _ _ _ _ (by omega)]
    split
    ·
     have := Nat.and_le_left (n := dg r5 12) (m := 252)
     have := hle5 12
     omega
    · exact hle5 i
   have hl6 : r6.length = 17 := by rw [← hr6, List.length_set]; exact hl5
   have hn := hr.setDig 12 x5
   rw [hr6] at hn
   replace H2 := Lib.hid (show Blk (W5.setCell ⟨w.heap.size + 2, 12, none⟩ (.int .u32 (x5 : Int))) w.heap.size 23 (k.map u8v) ∧ Blk (W5.setCell ⟨w.heap.size + 2, 12, none⟩ (.int .u32 (x5 : Int))) (w.heap.size + 1) 27 zT ∧ Blk (W5.setCell ⟨w.heap.size + 2, 12, none⟩ (.int .u32 (x5 : Int))) (w.heap.size + 3) 105 z17 ∧ Below w.heap.size w (W5.setCell ⟨w.heap.size + 2, 12, none⟩ (.int .u32 (x5 : Int))) ∧ w.heap.size + 4 ≤ (W5.setCell ⟨w.heap.size + 2, 12, none⟩ (.int .u32 (x5 : Int))).heap.size from ⟨H2.out.1.far (by simp) _, H2.out.2.1.far (by simp) _, H2.out.2.2.1.far (by simp) _, H2.out.2.2.2.1.setCell (by dsimp only; omega) _, by have := H2.out.2.2.2.2; simpa [World.setCell] using this⟩)
   have HX5 := Lib.hid (And.intro hx hr6)
   have HLE := Lib.hid (And.intro hle6 hl6)
   have HN := Lib.hid hn
   clear hr hx hr6 hle5 hl5 hle6 hl6 hn 
   go_upto_region 12 with fail
   clear fx zx ha
   generalize W5.setCell ⟨w.heap.size + 2, 12, none⟩ (.int .u32 (x5 : Int)) = W6 at H2 HN ⊢
   have hr := HN.out
   obtain ⟨hle6, hl6⟩ := HLE.out
   clear HN HLE
   have fx := hr.dig 15 (by omega)
   have zx := hr.frozen 15
   obtain ⟨x6, hx⟩ : ∃ x, dg r6 15 &&& 15 = x := ⟨_, rfl⟩
   have ha : bits BinOp.and IntKind.u32 ((dg r6 15 : Nat) : Int) 15 = (x6 : Int) := by rw [← hx]; exact u32_and_nat (dg r6 15) 15 (by have := hle6 15; omega) (by omega)
   obtain ⟨r7, hr7⟩ : ∃ r, r6.set 15 x6 = r := ⟨_, rfl⟩
   have hle7 : ∀ i, dg r7 i ≤ 255 := fun i => by
    rw [← hr7, dg_set _ _ _ _ (by omega)]
    split
    ·
     have := Nat.and_le_left (n := dg r6 15) (m := 15)
     have := hle6 15
     omega
    · exact hle6 i
   have hl7 : r7.length = 17 := by rw [← hr7, List.length_set]; exact hl6
   have hn := hr.setDig 15 x6
   rw [hr7] at hn
   replace H2 := Lib.hid (show Blk (W6.setCell ⟨w.heap.size + 2, 15, none⟩ (.int .u32 (x6 : Int))) w.heap.size 23 (k.map u8v) ∧ Blk (W6.setCell ⟨w.heap.size + 2, 15, none⟩ (.int .u32 (x6 : Int))) (w.heap.size + 1) 27 zT ∧ Blk (W6.setCell ⟨w.heap.size + 2, 15, none⟩ (.int .u32 (x6 : Int))) (w.heap.size + 3) 105 z17 ∧ Below w.heap.size w (W6.setCell ⟨w.heap.size + 2, 15, none⟩ (.int .u32 (x6 : Int))) ∧ w.heap.size + 4 ≤ (W6.setCell ⟨w.heap.size + 2, 15, none⟩ (.int .u32 (x6 : Int))).heap.size from ⟨H2.out.1.far (by simp) _, H2.out.2.1.far (by simp) _, H2.out.2.2.1.far (by simp) _, H2.out.2.2.2.1.setCell (by dsimp only; omega) _, by have := H2.out.2.2.2.2; simpa [World.setCell] using this⟩)
   have HX6 := Lib.hid (And.intro hx hr7)
   have HLE := Lib.hid (And.intro hle7 hl7)
   have HN := Lib.hid hn
   clear hr hx hr7 hle6 hl6 hle7 hl7 hn 
   go_upto_region 13 with fail
   clear fx zx ha
   generalize W6.setCell ⟨w.heap.size + 2, 15, none⟩ (.int .u32 (x6 : Int)) = W7 at H2 HN ⊢
   have hr := HN.out
   obtain ⟨hle7, hl7⟩ := HLE.out
   clear HN HLE
   have hrd : r7 = rDig k := by
    rw [← hcl]
    simp only [clampsL, clamp]
    rw [HX0.out.1, HX0.out.2, HX1.out.1, HX1.out.2, HX2.out.1, HX2.out.2, HX3.out.1, HX3.out.2, HX4.out.1, HX4.out.2, HX5.out.1, HX5.out.2, HX6.out.1, HX6.out.2]
   have HRD := Lib.hid hrd
   have H3 := Lib.hid (And.intro hr H2.out)
   clear hrd hr hcl hle7 hl7 H2 HX0 HX1 HX2 HX3 HX4 HX5 HX6
   clear hlt hj
   obtain ⟨r, hre⟩ : ∃ r, r7 = r := ⟨_, rfl⟩
   rw [hre] at H3 HRD
   clear hre
   have HRL := Lib.hid (show r.length = 17 ∧ ∀ i, dg r i ≤ 255 by rw [HRD.out]; exact rDig_le k)
   go_loopw [1, 8, 9, 10] (fun dv _ _ _ wr => ∃ (i m cp : Nat) (hd : List Nat) (A : Option Addr), Hid (m = n - 16 * i ∧ 16 * i < n + 16 ∧ tidy hd 3 ∧ valN hd % primeP = accI (rN k) l i) ∧ m ≤ cp ∧ Hid (cp ≤ maxLen) ∧ dv = .slice A m cp ∧ Hid (Rd wr w.heap.size A m (l.drop (16 * i))) ∧ Hid (Blk wr (w.heap.size + 2) 105 (r.map nv) ∧ Blk wr w.heap.size 23 (k.map u8v) ∧ Blk wr (w.heap.size + 1) 27 zT ∧ Blk wr (w.heap.size + 3) 105 (hd.map nv) ∧ Below w.heap.size w wr ∧ w.heap.size + 4 ≤ wr.heap.size)) (fun dv _ _ _ _ => lenOf dv)
   case atStart => exact ⟨0, n, cap, List.replicate 17 0, D, Lib.hid ⟨rfl, by omega, ⟨rfl, fun i _ => by rw [z_dg]; omega, by decide⟩, z_val⟩, hnc, Lib.hid hcm, rfl, Lib.hid (by have := HR.out.below H3.out.2.2.2.2.1; simpa using this), Lib.hid ⟨H3.out.1, H3.out.2.1, H3.out.2.2.1, by rw [← z17_map]; exact H3.out.2.2.2.1, H3.out.2.2.2.2.1, H3.out.2.2.2.2.2⟩⟩
   case round =>
    clear H3
    obtain ⟨i, m, cp, hd, A, HI, hmc, hcpm, rfl, HRd, HH⟩ := hrel
    by_cases hm : 0 < m
    ·
     have d0 : decide ((m : Int) > 0) = true := by simp; omega
     have d1 : decide ((0 : Int) < (m : Int)) = true := by simp; omega
     obtain ⟨q, hq⟩ : ∃ q, min m 16 = q := ⟨_, rfl⟩
     have hqv : (if (16 : Int) < (m : Int) then (16 : Int) else (m : Int)) = (q : Int) := by split <;> omega
     have hqw : (if 16 < m then (16 : Int) else (m : Int)) = (q : Int) := by split <;> omega
     have hq0 : 0 < q := by omega
     have hqm : q ≤ m := by omega
     have hq16 : q ≤ 16 := by omega
     obtain ⟨pc, hpc⟩ : ∃ pc, (l.drop (16 * i)).take 16 = pc := ⟨_, rfl⟩
     have hpl : pc.length = q := by rw [← hpc, List.length_take, HRd.out.1]; omega
     have HPC := Lib.hid hpc
     have HPL := Lib.hid hpl
     have HQ := Lib.hid hq
     clear hpc hpl hq
     obtain ⟨db, off, rfl, hdb, hc⟩ := HRd.out.at_ hm
     have HC := Lib.hid hc
     clear hc
     go_upto_region 16 with fail
     clear d0 d1 hqv hqw
     have ga := HH.out.1.alloc (.cells z17.toArray 105)
     have gb := HH.out.2.1.alloc (.cells z17.toArray 105)
     have gc := HH.out.2.2.1.alloc (.cells z17.toArray 105)
     have gd := HH.out.2.2.2.1.alloc (.cells z17.toArray 105)
     have ge := HH.out.2.2.2.2.1.alloc HH.out.2.2.2.2.1.size (.cells z17.toArray 105)
     have gf : Blk (wr.alloc (.cells z17.toArray 105)) wr.heap.size 105 z17 := Blk.new wr _ _
     have gg : w.heap.size + 4 ≤ wr.heap.size := HH.out.2.2.2.2.2
     have gh : wr.heap.size < (wr.alloc (.cells z17.toArray 105)).heap.size := by simp
     rw [z17_arr] at ga gb gc gd ge gf gh
     generalize wr.alloc (.cells #[.int .u32 0, .int .u32 0, .int .u32 0, .int .u32 0, .int .u32 0, .int .u32 0, .int .u32 0, .int .u32 0, .int .u32 0, .int .u32 0, .int .u32 0, .int .u32 0, .int .u32 0, .int .u32 0, .int .u32 0, .int .u32 0, .int .u32 0] 105) = wb at ga gb gc gd ge gf gh ⊢
     have hcell : ∀ j (hj : j < q), wb.cell? ⟨db, off + j, none⟩ = some (.int .u8 (kb pc j : Int)) := fun j hj => by
      have hjl : j < (l.drop (16 * i)).length := by rw [HRd.out.1]; omega
      have h1 := HC.out j hjl
      have h2 : wb.cell? ⟨db, off + j, none⟩ = wr.cell? ⟨db, off + j, none⟩ := (ge.cell (p := ⟨db, off + j, none⟩) hdb).trans (HH.out.2.2.2.2.1.cell (p := ⟨db, off + j, none⟩) hdb).symm
      rw [h2, h1, ← HPC.out]
      have hjq : j < 16 := by omega
      have hjl2 : 16 * i + j < l.length := by rw [List.length_drop] at hjl; omega
      simp [kb, List.getD, hjq, hjl2]
     have HCELL := Lib.hid hcell
     generalize wr.heap.size = C at gf gg gh ⊢
     have HB := Lib.hid (And.intro gf (And.intro ga (And.intro gb (And.intro gc (And.intro gd (And.intro ge (And.intro gg gh)))))))
     have HGG := Lib.hid gg
     clear ga gb gc gd ge gf gg gh hcell HC
     go_wp2_with fail
     go_loopw [10] (fun v wr => ∃ j : Nat, j ≤ q ∧ v = .int .i64 (j : Int) ∧ Below w.heap.size w wr ∧ Blk wr C 105 ((rowG (kb pc) j).map nv) ∧ Hid (Blk wr (w.heap.size + 2) 105 (r.map nv) ∧ Blk wr w.heap.size 23 (k.map u8v) ∧ Blk wr (w.heap.size + 1) 27 zT ∧ Blk wr (w.heap.size + 3) 105 (hd.map nv) ∧ C < wr.heap.size)) (fun v _ => q - (intOf v).toNat)
     case atStart => exact ⟨0, by omega, rfl, HB.out.2.2.2.2.2.1, by rw [rowG_zero, ← z17_map]; exact HB.out.1, Lib.hid ⟨HB.out.2.1, HB.out.2.2.1, HB.out.2.2.2.1, HB.out.2.2.2.2.1, HB.out.2.2.2.2.2.2.2⟩⟩
     case round =>
      obtain ⟨j, hj, rfl, hbel, hrow, HX⟩ := hrel
      by_cases hlt : j < q
      ·
       have dq : decide ((j : Int) < (q : Int)) = true := by simp; omega
       have fk := (hbel.cell (p := ⟨db, off + j, none⟩) hdb).trans ((HB.out.2.2.2.2.2.1.cell (p := ⟨db, off + j, none⟩) hdb).symm.trans (HCELL.out j hlt))
       have fx := hrow.dig j (by rw [rowG_length _ _ (by omega)]; omega)
       have zx := hrow.frozen j
       obtain ⟨b, hb⟩ : ∃ b, kb pc j = b := ⟨_, rfl⟩
       have hb256 : b < 256 := by rw [← hb]; exact (pc.getD j 0).toNat_lt
       rw [hb] at fk
       have HN := Lib.hid (show Below w.heap.size w (wr.setCell ⟨C, j, none⟩ (.int .u32 (b : Int))) ∧ Blk (wr.setCell ⟨C, j, none⟩ (.int .u32 (b : Int))) C 105 ((rowG (kb pc) (j + 1)).map nv) ∧ Blk (wr.setCell ⟨C, j, none⟩ (.int .u32 (b : Int))) (w.heap.size + 2) 105 (r.map nv) ∧ Blk (wr.setCell ⟨C, j, none⟩ (.int .u32 (b : Int))) w.heap.size 23 (k.map u8v) ∧ Blk (wr.setCell ⟨C, j, none⟩ (.int .u32 (b : Int))) (w.heap.size + 1) 27 zT ∧ Blk (wr.setCell ⟨C, j, none⟩ (.int .u32 (b : Int))) (w.heap.size + 3) 105 (hd.map nv) ∧ C < (wr.setCell ⟨C, j, none⟩ (.int .u32 (b : Int))).heap.size by
        have := HGG.out
        exact ⟨hbel.setCell (by dsimp only; omega) _, by rw [← rowG_set (kb pc) j (by omega), hb]; exact hrow.setDig j b, HX.out.1.far (by simp; omega) _, HX.out.2.1.far (by simp; omega) _, HX.out.2.2.1.far (by simp; omega) _, HX.out.2.2.2.1.far (by simp; omega) _, by simpa [World.setCell] using HX.out.2.2.2.2⟩)
       clear hbel hrow HX hb
       have hbm : (b : Int) % 4294967296 = (b : Int) := by omega
       go_wp2_with fail
       go_roundw
       case rel => exact ⟨j + 1, by omega, by go_num, HN.out.1, HN.out.2.1, Lib.hid HN.out.2.2⟩
       case measure => simp [intOf]; omega
      ·
       obtain rfl : j = q := by omega
       have dq : decide ((j : Int) < (j : Int)) = false := by simp
       have hgc := HGG.out
       have fx := hrow.dig j (by rw [rowG_length _ _ (by omega)]; omega)
       have zx := hrow.frozen j
       have hset := hrow.setDig j 1
       have hce : (rowG (kb pc) j).set j 1 = cDig pc := by
        have := cDig_row pc (by rw [HPL.out]; omega)
        rwa [HPL.out] at this
       rw [hce] at hset
       have HN := Lib.hid (show Blk (wr.setCell ⟨C, j, none⟩ (.int .u32 1)) C 105 ((cDig pc).map nv) ∧ Below w.heap.size w (wr.setCell ⟨C, j, none⟩ (.int .u32 1)) ∧ Blk (wr.setCell ⟨C, j, none⟩ (.int .u32 1)) (w.heap.size + 2) 105 (r.map nv) ∧ Blk (wr.setCell ⟨C, j, none⟩ (.int .u32 1)) w.heap.size 23 (k.map u8v) ∧ Blk (wr.setCell ⟨C, j, none⟩ (.int .u32 1)) (w.heap.size + 1) 27 zT ∧ Blk (wr.setCell ⟨C, j, none⟩ (.int .u32 1)) (w.heap.size + 3) 105 (hd.map nv) ∧ C < (wr.setCell ⟨C, j, none⟩ (.int .u32 1)).heap.size from
        ⟨hset, hbel.setCell (by dsimp only; omega) _, HX.out.1.far (by simp; omega) _, HX.out.2.1.far (by simp; omega) _, HX.out.2.2.1.far (by simp; omega) _, HX.out.2.2.2.1.far (by simp; omega) _, by simpa [World.setCell] using HX.out.2.2.2.2⟩)
       have hcl := cDig_le pc (by rw [HPL.out]; omega)
       have hst := step_val k l i HI.out.2.2.1 HI.out.2.2.2 HRD.out
       rw [HPC.out] at hst
       obtain ⟨cd, hcd⟩ : ∃ cd, cDig pc = cd := ⟨_, rfl⟩
       rw [hcd] at HN hcl hst
       have PC := plus_any hd cd ⟨HI.out.2.2.1.1, tidy_le HI.out.2.2.1 (by omega)⟩ hcl
       have TC := times_any (plusN hd cd) r ⟨by rw [plusN_length]; exact HI.out.2.2.1.1, plusN_digits _ _ HI.out.2.2.1.1⟩ HRL.out
       obtain ⟨hp, hhp⟩ : ∃ hp, plusN hd cd = hp := ⟨_, rfl⟩
       rw [hhp] at PC TC hst
       obtain ⟨ht, hht⟩ : ∃ ht, timesN hp r = ht := ⟨_, rfl⟩
       rw [hht] at TC hst
       obtain ⟨ah, hah⟩ : ∃ a, (hd.map nv).toArray = a := ⟨_, rfl⟩
       obtain ⟨ac, hac⟩ : ∃ a, (cd.map nv).toArray = a := ⟨_, rfl⟩
       obtain ⟨ap, hap⟩ : ∃ a, (hp.map nv).toArray = a := ⟨_, rfl⟩
       obtain ⟨ar, har⟩ : ∃ a, (r.map nv).toArray = a := ⟨_, rfl⟩
       obtain ⟨at', hat⟩ : ∃ a, (ht.map nv).toArray = a := ⟨_, rfl⟩
       rw [hah, hac, hap] at PC
       rw [hap, har, hat] at TC
       have HPCC := Lib.hid PC
       have HTC := Lib.hid TC
       have HAH := Lib.hid hah
       have HAC := Lib.hid hac
       have HAR := Lib.hid har
       have HAT := Lib.hid hat
       have HCL := Lib.hid hcl.1
       have HST := Lib.hid hst
       clear PC TC hah hac hap har hat hcl hst hhp hht hcd hset hce hrow hbel HX HB
       go_upto_region 21 with fail
       clear fx zx dq
       generalize wr.setCell ⟨C, j, none⟩ (.int .u32 1) = wx at HN ⊢
       refine wp_region_held_drew (S := fun w' => Blk w' C 105 (cd.map nv) ∧ Blk w' (w.heap.size + 2) 105 (r.map nv)) (by kernel_rfl) (And.intro HN.out.1.drew HN.out.2.2.1.drew) (fun hHeld => ?_)
       refine tf (v := .agg ac) 1 rfl (by rw [← HAC.out]; exact yields_load_blk (by rfl) 105 (.tmp 9) rfl C rfl 105 (cd.map nv) (fun w' hb => hb.1) 17 28 Tryz.underlying105 (cells17 cd HCL.out)) ?_
       (try simp only [Act.put, sA, s0, s1])
       refine tf (v := .agg ar) 3 rfl (by rw [← HAR.out]; exact yields_load_blk (by rfl) 105 (.tmp 5) rfl (w.heap.size + 2) rfl 105 (r.map nv) (fun w' hb => hb.2) 17 28 Tryz.underlying105 (cells17 r HRL.out.1)) ?_
       (try simp only [Act.put, sA, s0, s1])
       refine so 0 rfl fun K hK => ?_
       refine step_load_blk rfl 105 (.tmp 6) rfl (w.heap.size + 3) rfl 105 (hd.map nv) HN.out.2.2.2.2.2.1.drew 17 28 Tryz.underlying105 (cells17 hd HI.out.2.2.1.1) ?_
       rw [HAH.out]
       refine hK.out _ _ hHeld (fun hHeld => ?_)
       clear hK K
       (try simp only [Act.put, sA, s0, s1])
       refine so 2 rfl fun K hK => ?_
       go_simp
       refine (HPCC.out _).mono ?_
       rintro e wp ⟨rfl, hb⟩
       replace HN := Lib.hid (show Blk wp C 105 (cd.map nv) ∧ Below w.heap.size w wp ∧ Blk wp (w.heap.size + 2) 105 (r.map nv) ∧ Blk wp w.heap.size 23 (k.map u8v) ∧ Blk wp (w.heap.size + 1) 27 zT ∧ Blk wp (w.heap.size + 3) 105 (hd.map nv) ∧ C < wp.heap.size from ⟨HN.out.1.drew.below hb HN.out.1.lt, HN.out.2.1.drew.trans (hb.mono HN.out.2.1.size), HN.out.2.2.1.drew.below hb HN.out.2.2.1.lt, HN.out.2.2.2.1.drew.below hb HN.out.2.2.2.1.lt, HN.out.2.2.2.2.1.drew.below hb HN.out.2.2.2.2.1.lt, HN.out.2.2.2.2.2.1.drew.below hb HN.out.2.2.2.2.2.1.lt, Nat.lt_of_lt_of_le HN.out.2.2.2.2.2.2 hb.size⟩)
       clear hb
       go_wp2_with fail
       refine hK.out _ _ (And.intro HN.out.1 HN.out.2.2.1) (fun hHeld => ?_)
       clear hK K
       (try simp only [Act.put, sA, s0, s1])
       refine so 4 rfl fun K hK => ?_
       go_simp
       refine (HTC.out _).mono ?_
       rintro e wt ⟨rfl, hb⟩
       replace HN := Lib.hid (show Blk wt C 105 (cd.map nv) ∧ Below w.heap.size w wt ∧ Blk wt (w.heap.size + 2) 105 (r.map nv) ∧ Blk wt w.heap.size 23 (k.map u8v) ∧ Blk wt (w.heap.size + 1) 27 zT ∧ Blk wt (w.heap.size + 3) 105 (hd.map nv) ∧ C < wt.heap.size from ⟨HN.out.1.below hb HN.out.1.lt, HN.out.2.1.trans (hb.mono HN.out.2.1.size), HN.out.2.2.1.below hb HN.out.2.2.1.lt, HN.out.2.2.2.1.below hb HN.out.2.2.2.1.lt, HN.out.2.2.2.2.1.below hb HN.out.2.2.2.2.1.lt, HN.out.2.2.2.2.2.1.below hb HN.out.2.2.2.2.2.1.lt, Nat.lt_of_lt_of_le HN.out.2.2.2.2.2.2 hb.size⟩)
       clear hb
       go_wp2_with fail
       refine hK.out _ _ (And.intro HN.out.1 HN.out.2.2.1) (fun hHeld => ?_)
       clear hK K
       (try simp only [Act.put, sA, s0, s1])
       refine so 5 rfl fun K hK => ?_
       refine step_store_blk _ rfl 105 (.tmp 6) (.tmp 77) rfl (w.heap.size + 3) (ht.map nv) rfl (by rw [HAT.out]; rfl) 105 (hd.map nv) HN.out.2.2.2.2.2.1 (cells17 ht HST.out.1.1) (by rw [List.length_map, List.length_map, HST.out.1.1, HI.out.2.2.1.1]) (nv_one _) ?_
       intro w8 hb8 hg8
       replace HN := Lib.hid (show Blk w8 C 105 (cd.map nv) ∧ Below w.heap.size w w8 ∧ Blk w8 (w.heap.size + 2) 105 (r.map nv) ∧ Blk w8 w.heap.size 23 (k.map u8v) ∧ Blk w8 (w.heap.size + 1) 27 zT ∧ Blk w8 (w.heap.size + 3) 105 (ht.map nv) ∧ C < w8.heap.size from ⟨HN.out.1.grown hg8 (by simp; omega), below_blk HN.out.2.1 hg8 (by omega), HN.out.2.2.1.grown hg8 (by simp), HN.out.2.2.2.1.grown hg8 (by simp), HN.out.2.2.2.2.1.grown hg8 (by simp), hb8, Nat.lt_of_lt_of_le HN.out.2.2.2.2.2.2 hg8.size⟩)
       refine hK.out _ _ (And.intro HN.out.1 HN.out.2.2.1) (fun hHeld => ?_)
       clear hK K
       simp only [Act.put]
       refine wpAnyH_done (by kernel_rfl) ?_ _
       clear hHeld hb8 hg8
       obtain ⟨Ad, hAd⟩ : ∃ Ad, (if cp = j then some ⟨db, off, none⟩ else some ⟨db, off + j, none⟩ : Option Addr) = Ad := ⟨_, rfl⟩
       have HAD := Lib.hid (show Ad = some ⟨db, off + j, none⟩ ∨ m = j by
        rw [← hAd]
        by_cases h : cp = j
        · right; omega
        · left; rw [if_neg h])
       have b1 : (j : Int) ≤ (m : Int) := by omega
       go_wp2_with fail
       go_roundw
       case rel =>
        refine ⟨i + 1, m - j, cp - j, ht, Ad, Lib.hid ⟨by have := HI.out.1; have := HQ.out; omega, by have := HI.out.1; omega, HST.out⟩, by omega, Lib.hid (by have := hcpm.out; omega), rfl, Lib.hid ?_, Lib.hid ⟨HN.out.2.2.1, HN.out.2.2.2.1, HN.out.2.2.2.2.1, HN.out.2.2.2.2.2.1, HN.out.2.1, by have := HN.out.2.2.2.2.2.2; omega⟩⟩
        have h1 : Rd w8 w.heap.size (some ⟨db, off, none⟩) m (l.drop (16 * i)) := HRd.out.keep fun p hp => (HN.out.2.1.cell hp).trans (HH.out.2.2.2.2.1.cell hp).symm
        have h2 := Rd.drop_if HAD.out hqm h1
        have h3 : (l.drop (16 * i)).drop j = l.drop (16 * (i + 1)) := by
         rw [List.drop_drop]
         by_cases h16 : 16 ≤ m
         ·
          congr 1
          have := HQ.out
          omega
         ·
          have := HQ.out
          have := HI.out.1
          have := HLN.out
          rw [List.drop_of_length_le (by omega), List.drop_of_length_le (by omega)]
        rw [h3] at h2
        exact h2
       case measure => simp [lenOf]; omega
    ·
     obtain rfl : m = 0 := by omega
     have hie : i = (l.length + 15) / 16 := by
      have h1 := HI.out.1
      have h2 := HI.out.2.1
      have h3 := HLN.out
      omega
     have HTE := Lib.hid (tag_end k l hd HI.out.2.2.1 (by rw [← hie]; exact HI.out.2.2.2))
     have hfit := HI.out.2.2.1.fits (by omega)
     have hle := leastN_le hfit
     have LC := least_any hd hfit
     have PC := plus_any (leastN hd) (sDig k) hle (sDig_le k)
     have hfl : (plusN (leastN hd) (sDig k)).length = 17 := by rw [plusN_length]; exact hle.1
     have hf255 := plusN_digits (leastN hd) (sDig k) hle.1
     obtain ⟨ll, hll⟩ : ∃ x, leastN hd = x := ⟨_, rfl⟩
     rw [hll] at hle LC PC HTE hfl hf255
     obtain ⟨hf, hhf⟩ : ∃ x, plusN ll (sDig k) = x := ⟨_, rfl⟩
     rw [hhf] at PC HTE hfl hf255
     obtain ⟨ah, hah⟩ : ∃ a, (hd.map nv).toArray = a := ⟨_, rfl⟩
     obtain ⟨al, hal⟩ : ∃ a, (ll.map nv).toArray = a := ⟨_, rfl⟩
     obtain ⟨as', has⟩ : ∃ a, ((sDig k).map nv).toArray = a := ⟨_, rfl⟩
     obtain ⟨af, haf⟩ : ∃ a, (hf.map nv).toArray = a := ⟨_, rfl⟩
     rw [hah, hal] at LC
     rw [hal, has, haf] at PC
     have HLC := Lib.hid LC
     have HPC := Lib.hid PC
     have HAH := Lib.hid hah
     have HAL := Lib.hid hal
     have HAS := Lib.hid has
     have HAF := Lib.hid haf
     have HLL := Lib.hid hle.1
     have HFL := Lib.hid (And.intro hfl hf255)
     clear hie hfit hle LC PC hfl hf255 hll hhf hah hal has haf
     go_wp2_with (refine wpList_load_blk rfl 105 (.tmp 6) rfl (w.heap.size + 3) rfl 105 (hd.map nv) HH.out.2.2.2.1 17 28 Tryz.underlying105 (cells17 hd HI.out.2.2.1.1) ?_; rw [HAH.out])
     refine (HLC.out _).mono ?_
     rintro e w2 ⟨rfl, hb2⟩
     have H2 := Lib.hid (show Blk w2 w.heap.size 23 (k.map u8v) ∧ Blk w2 (w.heap.size + 1) 27 zT ∧ Blk w2 (w.heap.size + 3) 105 (hd.map nv) ∧ Below w.heap.size w w2 ∧ w.heap.size + 4 ≤ w2.heap.size from ⟨HH.out.2.1.below hb2 HH.out.2.1.lt, HH.out.2.2.1.below hb2 HH.out.2.2.1.lt, HH.out.2.2.2.1.below hb2 HH.out.2.2.2.1.lt, HH.out.2.2.2.2.1.trans (hb2.mono HH.out.2.2.2.2.1.size), Nat.le_trans HH.out.2.2.2.2.2 hb2.size⟩)
     clear hb2 HH
     go_upto_region 24 with (refine wpList_store_blk rfl 105 (.tmp 6) (.tmp 82) rfl (w.heap.size + 3) (ll.map nv) rfl (by rw [HAL.out]; rfl) 105 (hd.map nv) H2.out.2.2.1 (cells17 ll HLL.out) (by rw [List.length_map, List.length_map, HLL.out, HI.out.2.2.1.1]) (nv_one _) ?_; intro w3 hb3 hg3)
     simp only [Act.put]
     have H3 := Lib.hid (show Blk w3 w.heap.size 23 (k.map u8v) ∧ Blk w3 (w.heap.size + 1) 27 zT ∧ Blk w3 (w.heap.size + 3) 105 (ll.map nv) ∧ Below w.heap.size w w3 ∧ w.heap.size + 4 ≤ w3.heap.size from ⟨H2.out.1.grown hg3 (by simp), H2.out.2.1.grown hg3 (by simp), hb3, below_blk H2.out.2.2.2.1 hg3 (by omega), Nat.le_trans H2.out.2.2.2.2 hg3.size⟩)
     clear H2 hb3 hg3
     go_upto_region 25 with fail
     have ga := H3.out.1.alloc (.cells z17.toArray 105)
     have gb := H3.out.2.1.alloc (.cells z17.toArray 105)
     have gc := H3.out.2.2.1.alloc (.cells z17.toArray 105)
     have gd := H3.out.2.2.2.1.alloc H3.out.2.2.2.1.size (.cells z17.toArray 105)
     have ge : Blk (w3.alloc (.cells z17.toArray 105)) w3.heap.size 105 z17 := Blk.new w3 _ _
     have gf : w3.heap.size < (w3.alloc (.cells z17.toArray 105)).heap.size := by simp
     have gg : w.heap.size + 4 ≤ w3.heap.size := H3.out.2.2.2.2
     rw [z17_arr] at ga gb gc gd ge gf
     generalize w3.alloc (.cells #[.int .u32 0, .int .u32 0, .int .u32 0, .int .u32 0, .int .u32 0, .int .u32 0, .int .u32 0, .int .u32 0, .int .u32 0, .int .u32 0, .int .u32 0, .int .u32 0, .int .u32 0, .int .u32 0, .int .u32 0, .int .u32 0, .int .u32 0] 105) = w4 at ga gb gc gd ge gf ⊢
     clear H3
     generalize w3.heap.size = C at ge gf gg ⊢
     have H4 := Lib.hid (And.intro ga (And.intro gb (And.intro gc (And.intro gd (And.intro ge gf)))))
     have HGG := Lib.hid gg
     clear ga gb gc gd ge gf gg
     go_wp2_with fail
     go_loopw [12] (fun v wr => ∃ j : Nat, j ≤ 16 ∧ v = .int .i64 (j : Int) ∧ Blk wr C 105 ((rowG (fun i => kb k (16 + i)) j).map nv) ∧ Blk wr w.heap.size 23 (k.map u8v) ∧ Hid (Blk wr (w.heap.size + 1) 27 zT ∧ Blk wr (w.heap.size + 3) 105 (ll.map nv) ∧ Below w.heap.size w wr ∧ C < wr.heap.size)) (fun v _ => 16 - (intOf v).toNat)
     case atStart => exact ⟨0, by omega, rfl, by rw [rowG_zero, ← z17_map]; exact H4.out.2.2.2.2.1, H4.out.1, Lib.hid ⟨H4.out.2.1, H4.out.2.2.1, H4.out.2.2.2.1, H4.out.2.2.2.2.2⟩⟩
     case round =>
      clear H4
      obtain ⟨j, hj, rfl, hrow, hk, HX⟩ := hrel
      by_cases hlt : j < 16
      ·
       have d16 : decide ((j : Int) < 16) = true := by simp; omega
       have fk := hk.key (16 + j) (by rw [HK.out]; omega)
       have fx := hrow.dig j (by rw [rowG_length _ _ (by omega)]; omega)
       have zx := hrow.frozen j
       obtain ⟨b, hb⟩ : ∃ b, kb k (16 + j) = b := ⟨_, rfl⟩
       have hb256 : b < 256 := by rw [← hb]; exact (k.getD (16 + j) 0).toNat_lt
       rw [hb] at fk
       have HN := Lib.hid (show Blk (wr.setCell ⟨C, j, none⟩ (.int .u32 (b : Int))) C 105 ((rowG (fun i => kb k (16 + i)) (j + 1)).map nv) ∧ Blk (wr.setCell ⟨C, j, none⟩ (.int .u32 (b : Int))) w.heap.size 23 (k.map u8v) ∧ Blk (wr.setCell ⟨C, j, none⟩ (.int .u32 (b : Int))) (w.heap.size + 1) 27 zT ∧ Blk (wr.setCell ⟨C, j, none⟩ (.int .u32 (b : Int))) (w.heap.size + 3) 105 (ll.map nv) ∧ Below w.heap.size w (wr.setCell ⟨C, j, none⟩ (.int .u32 (b : Int))) ∧ C < (wr.setCell ⟨C, j, none⟩ (.int .u32 (b : Int))).heap.size by
        have := HGG.out
        exact ⟨by rw [← rowG_set (fun i => kb k (16 + i)) j (by omega), hb]; exact hrow.setDig j b, hk.far (by simp; omega) _, HX.out.1.far (by simp; omega) _, HX.out.2.1.far (by simp; omega) _, HX.out.2.2.1.setCell (by dsimp only; omega) _, by simpa [World.setCell] using HX.out.2.2.2⟩)
       clear hrow hk HX hb
       have hbm : (b : Int) % 4294967296 = (b : Int) := by omega
       go_wp2_with fail
       go_roundw
       case rel => exact ⟨j + 1, by omega, by go_num, HN.out.1, HN.out.2.1, Lib.hid HN.out.2.2⟩
       case measure => simp [intOf]; omega
      ·
       obtain rfl : j = 16 := by omega
       rw [show rowG (fun i => kb k (16 + i)) 16 = sDig k from rfl] at hrow
       have H5 := Lib.hid (And.intro hrow HX.out)
       clear hrow hk HX
       rw [show ((16 : Nat) : Int) = 16 from rfl]
       go_wp2_with (first | (refine wpList_load_blk rfl 105 (.tmp 6) rfl (w.heap.size + 3) rfl 105 (ll.map nv) H5.out.2.2.1 17 28 Tryz.underlying105 (cells17 ll HLL.out) ?_; rw [HAL.out]) | (refine wpList_load_blk rfl 105 (.tmp 11) rfl C rfl 105 ((sDig k).map nv) H5.out.1 17 28 Tryz.underlying105 (cells17 (sDig k) (sDig_le k).1) ?_; rw [HAS.out]))
       refine (HPC.out _).mono ?_
       rintro e w6 ⟨rfl, hb6⟩
       have H6 := Lib.hid (show Blk w6 (w.heap.size + 1) 27 zT ∧ Blk w6 (w.heap.size + 3) 105 (ll.map nv) ∧ Below w.heap.size w w6 ∧ w.heap.size + 4 ≤ w6.heap.size from ⟨H5.out.2.1.below hb6 H5.out.2.1.lt, H5.out.2.2.1.below hb6 H5.out.2.2.1.lt, H5.out.2.2.2.1.trans (hb6.mono H5.out.2.2.2.1.size), by have := hb6.size; have := H5.out.2.2.2.2; have := HGG.out; omega⟩)
       clear H5 hb6
       go_upto_region 30 with (refine wpList_store_blk rfl 105 (.tmp 6) (.tmp 96) rfl (w.heap.size + 3) (hf.map nv) rfl (by rw [HAF.out]; rfl) 105 (ll.map nv) H6.out.2.1 (cells17 hf HFL.out.1) (by rw [List.length_map, List.length_map, HFL.out.1, HLL.out]) (nv_one _) ?_; intro w7 hb7 hg7)
       simp only [Act.put]
       have H7 := Lib.hid (show Blk w7 (w.heap.size + 1) 27 zT ∧ Blk w7 (w.heap.size + 3) 105 (hf.map nv) ∧ Below w.heap.size w w7 ∧ w.heap.size + 4 ≤ w7.heap.size from ⟨H6.out.1.grown hg7 (by simp), hb7, below_blk H6.out.2.2.1 hg7 (by omega), Nat.le_trans H6.out.2.2.2 hg7.size⟩)
       clear H6 hb7 hg7
       go_upto_region 31 with fail
       have ga := H7.out.1.alloc (.cells zT.toArray 27)
       have gb := H7.out.2.1.alloc (.cells zT.toArray 27)
       have gc := H7.out.2.2.1.alloc H7.out.2.2.1.size (.cells zT.toArray 27)
       have gd : Blk (w7.alloc (.cells zT.toArray 27)) w7.heap.size 27 zT := Blk.new w7 _ _
       have ge : w.heap.size + 4 ≤ w7.heap.size := H7.out.2.2.2
       rw [zT_arr] at ga gb gc gd
       generalize w7.alloc (.cells zb16 27) = w8 at ga gb gc gd ⊢
       clear H7
       generalize w7.heap.size = E at gd ge ⊢
       have H8 := Lib.hid (And.intro ga (And.intro gb (And.intro gc gd)))
       have HGE := Lib.hid ge
       clear ga gb gc gd ge
       go_wp2_with fail
       go_loopw [97, 14] (fun v _ wr => ∃ j : Nat, j ≤ 16 ∧ v = .int .i64 (j : Int) ∧ Blk wr E 27 ((rowO hf j).map u8v) ∧ Blk wr (w.heap.size + 3) 105 (hf.map nv) ∧ Hid (Blk wr (w.heap.size + 1) 27 zT ∧ Below w.heap.size w wr)) (fun v _ _ => 16 - (intOf v).toNat)
       case atStart => exact ⟨0, by omega, rfl, (by rw [rowO_zero, List.map_replicate]; exact H8.out.2.2.2), H8.out.2.1, Lib.hid ⟨H8.out.1, H8.out.2.2.1⟩⟩
       case round =>
        clear H8
        obtain ⟨j, hj, rfl, hrow, hh, HX⟩ := hrel
        by_cases hlt : j < 16
        ·
         have d16 : decide ((j : Int) < 16) = true := by simp; omega
         have fh := hh.dig j (by rw [HFL.out.1]; omega)
         have fx : ∃ u, wr.cell? ⟨E, j, none⟩ = some u := by
          rw [hrow.cell j]
          exact ⟨_, List.getElem?_eq_getElem (by rw [List.length_map, rowO_length _ _ (by omega)]; omega)⟩
         obtain ⟨u, fx⟩ := fx
         have zx := hrow.frozen j
         have hd255 := HFL.out.2 j
         have hset := hrow.set_ j (u8v (UInt8.ofNat (dg hf j)))
         rw [← List.map_set, rowO_set hf j hlt, u8v_dig _ hd255] at hset
         obtain ⟨d, hdd⟩ : ∃ d, dg hf j = d := ⟨_, rfl⟩
         rw [hdd] at fh hset hd255
         have HN := Lib.hid (show Blk (wr.setCell ⟨E, j, none⟩ (.int .u8 (d : Int))) E 27 ((rowO hf (j + 1)).map u8v) ∧ Blk (wr.setCell ⟨E, j, none⟩ (.int .u8 (d : Int))) (w.heap.size + 3) 105 (hf.map nv) ∧ Blk (wr.setCell ⟨E, j, none⟩ (.int .u8 (d : Int))) (w.heap.size + 1) 27 zT ∧ Below w.heap.size w (wr.setCell ⟨E, j, none⟩ (.int .u8 (d : Int))) by
          have := HGE.out
          exact ⟨hset, hh.far (by simp; omega) _, HX.out.1.far (by simp; omega) _, HX.out.2.setCell (by dsimp only; omega) _⟩)
         clear hrow hh HX hset hdd
         have hdm : (d : Int) % 256 = (d : Int) := by omega
         go_wp2_with fail
         go_roundw
         case rel => exact ⟨j + 1, by omega, by go_num, HN.out.1, HN.out.2.1, Lib.hid HN.out.2.2⟩
         case measure => simp [intOf]; omega
        ·
         obtain rfl : j = 16 := by omega
         rw [HTE.out] at hrow
         have HB := Lib.hid (And.intro hrow HX.out)
         have HLz := Lib.hid (show (tagL k l).length = 16 from littleL_length _ _)
         obtain ⟨lz, hlz⟩ : ∃ lz, tagL k l = lz := ⟨_, rfl⟩
         rw [hlz] at HB HLz
         have HZ := Lib.hid hlz
         obtain ⟨cz, hcz⟩ : ∃ cz, (lz.map u8v).toArray = cz := ⟨_, rfl⟩
         have HCZ := Lib.hid hcz
         clear hrow hh HX hlz hcz HTE
         rw [show ((16 : Nat) : Int) = 16 from rfl]
         go_wp2_with (first | (refine wpList_load_blk rfl 27 (.tmp 13) rfl E rfl 27 (lz.map u8v) HB.out.1 16 5 Tryz.underlying27 (cells16T lz HLz.out) ?_; rw [HCZ.out]) | (refine wpList_store_blk rfl 27 (.tmp 4) (.tmp 107) rfl (w.heap.size + 1) (lz.map u8v) rfl (by show Value.agg cz = _; rw [HCZ.out]) 27 zT HB.out.2.1 (cells16T lz HLz.out) (by rw [List.length_map, HLz.out]; rfl) (u8v_one _) ?_; intro w9 hb9 hg9))
         exact bodyPost_ret (results_blk rfl _ _ (w.heap.size + 1) 27 (lz.map u8v) 16 5 rfl hb9 Tryz.underlying27 (cells16T lz HLz.out)) rfl ⟨by rw [HZ.out], below_blk HB.out.2.2 hg9 (by omega)⟩
set_option maxRecDepth 100000 in
set_option maxHeartbeats 8000000 in
theorem refShort_any (k n : List UInt8) (hk : k.length = 32) (hn : n.length = 24) (w : World) :
 Calls Tryz.prog 22 #[.agg (k.map u8v).toArray, .agg (n.map u8v).toArray] w fun e w' => e = .returned (.tuple #[.agg ((longK k n).map u8v).toArray, .agg ((longN n).map u8v).toArray]) ∧ Below w.heap.size w w' := by
 have h16 : (n.take 16).length = 16 := by rw [List.length_take, hn]; rfl
 have h8 : (n.drop 16).length = 8 := by rw [List.length_drop, hn]
 have DC := fun w' : World => refDerive_any k (n.take 16) hk h16 w'
 rw [show deriveL k (n.take 16) = longK k n from rfl] at DC
 obtain ⟨ck, hck⟩ : ∃ ck, (k.map u8v).toArray = ck := ⟨_, rfl⟩
 obtain ⟨cn, hcn⟩ : ∃ c, (n.map u8v).toArray = c := ⟨_, rfl⟩
 obtain ⟨ci, hci⟩ : ∃ c, ((n.take 16).map u8v).toArray = c := ⟨_, rfl⟩
 obtain ⟨cd, hcd⟩ : ∃ c, ((longK k n).map u8v).toArray = c := ⟨_, rfl⟩
 obtain ⟨co, hco⟩ : ∃ c, ((longN n).map u8v).toArray = c := ⟨_, rfl⟩
 rw [hck, hci, hcd] at DC
 rw [hck, hcn]
 have HM := Lib.hid (show Mem w [blkE (w.heap.size + 1 + 1 + 1 + 1 + 1) 57 ((List.replicate 12 (0 : UInt8)).map u8v), blkE (w.heap.size + 1 + 1 + 1 + 1) 26 ((List.replicate 16 (0 : UInt8)).map u8v), blkE (w.heap.size + 1 + 1 + 1) 57 (aeZ 12), blkE (w.heap.size + 1 + 1) 23 (aeZ 32), blkE (w.heap.size + 1) 25 (n.map u8v), blkE w.heap.size 23 (k.map u8v)] ((((((w.alloc (.cells ck 23)).alloc (.cells cn 25)).alloc (.cells zb32 23)).alloc (.cells #[.int .u8 0, .int .u8 0, .int .u8 0, .int .u8 0, .int .u8 0, .int .u8 0, .int .u8 0, .int .u8 0, .int .u8 0, .int .u8 0, .int .u8 0, .int .u8 0] 57)).alloc (.cells zb16 26)).alloc (.cells #[.int .u8 0, .int .u8 0, .int .u8 0, .int .u8 0, .int .u8 0, .int .u8 0, .int .u8 0, .int .u8 0, .int .u8 0, .int .u8 0, .int .u8 0, .int .u8 0] 57)) from (((((((((((((Mem.nil w)).alloc rfl 23 ck (k.map u8v) hck.symm)).alloc (by simp) 25 cn (n.map u8v) hcn.symm)).alloc (by simp) 23 zb32 (aeZ 32) rfl)).alloc (by simp) 57 #[.int .u8 0, .int .u8 0, .int .u8 0, .int .u8 0, .int .u8 0, .int .u8 0, .int .u8 0, .int .u8 0, .int .u8 0, .int .u8 0, .int .u8 0, .int .u8 0] (aeZ 12) rfl)).alloc (by simp) 26 zb16 ((List.replicate 16 (0 : UInt8)).map u8v) rfl)).alloc (by simp) 57 #[.int .u8 0, .int .u8 0, .int .u8 0, .int .u8 0, .int .u8 0, .int .u8 0, .int .u8 0, .int .u8 0, .int .u8 0, .int .u8 0, .int .u8 0, .int .u8 0] ((List.replicate 12 (0 : UInt8)).map u8v) rfl))
 have HC := Lib.hid (And.intro hck (And.intro hci (And.intro hco hcd)))
 have HL := Lib.hid (And.intro hk hn)
 have HL16 := Lib.hid h16
 have HL8 := Lib.hid h8
 have HLN := Lib.hid (longN_length n hn)
 have HDC := Lib.hid DC
 have HG : ((longN n).map u8v) = ((longN n).map u8v) := rfl
 clear hck hcn hci hcd hco hk hn h16 h8 DC HG
 go_enter Tryz.func22, Tryz.ntmps22
 go_upto_region 3 with fail
 generalize ((((((w.alloc (.cells ck 23)).alloc (.cells cn 25)).alloc (.cells zb32 23)).alloc (.cells #[.int .u8 0, .int .u8 0, .int .u8 0, .int .u8 0, .int .u8 0, .int .u8 0, .int .u8 0, .int .u8 0, .int .u8 0, .int .u8 0, .int .u8 0, .int .u8 0] 57)).alloc (.cells zb16 26)).alloc (.cells #[.int .u8 0, .int .u8 0, .int .u8 0, .int .u8 0, .int .u8 0, .int .u8 0, .int .u8 0, .int .u8 0, .int .u8 0, .int .u8 0, .int .u8 0, .int .u8 0] 57)) = w1 at HM ⊢
 refine wp_region_held_drew (S := fun W' => Mem w [blkE (w.heap.size + 1 + 1 + 1 + 1 + 1) 57 ((List.replicate 12 (0 : UInt8)).map u8v), blkE (w.heap.size + 1 + 1 + 1) 57 (aeZ 12), blkE (w.heap.size + 1 + 1) 23 (aeZ 32), blkE (w.heap.size + 1) 25 (n.map u8v), blkE w.heap.size 23 (k.map u8v)] W') (by kernel_rfl) ((HM.out.erase 1).drew) (fun hHeld => ?_)
 replace HM := Lib.hid HM.out.drew
 generalize w1.drew = wd1 at HM hHeld ⊢
 refine tf (v := ?_) 0 rfl (Or.inl ⟨by rfl, ?_⟩) ?_
 rotate_left
 · (intro w hSw; (try dsimp only at hSw); go_simp; try with_reducible rfl)
 (try simp only [Act.put, sA, s0, s1])
 refine tf (v := ?_) 1 rfl (Or.inl ⟨by rfl, ?_⟩) ?_
 rotate_left
 · (intro w hSw; (try dsimp only at hSw); go_simp; try with_reducible rfl)
 (try simp only [Act.put, sA, s0, s1])
 refine so 2 rfl fun K hK => ?_
 clear hHeld
 refine step_copy_bytes _ rfl (.tmp 8) (.tmp 9) 29 29 (by rfl) 5 Tryz.underlying29 (by kernel_rfl) (w.heap.size + 1 + 1 + 1 + 1) 0 16 16 ⟨(w.heap.size + 1), 0, none⟩ 16 24 (by rfl) (by rfl) ((List.replicate 16 (0 : UInt8)).map u8v) 26 (HM.out.blk 1 rfl) ((n.take 16).map u8v) (by rw [List.length_map, HL16.out]; rfl) (show Rd wd1 (w.heap.size + 1 + 1) (some ⟨w.heap.size + 1, 0, none⟩) 16 (n.take 16) from by have h := ((HM.out.blk 4 rfl).rd 0 16 (by rw [HL.out.2]; omega)); rwa [List.drop_zero] at h).src (by rw [List.length_map, List.length_map, HL16.out]; decide) (u8v_one _) ?_
 intro wy2 hb hg
 rw [putL_map] at hb
 replace HM := Lib.hid (show Mem w [blkE (w.heap.size + 1 + 1 + 1 + 1 + 1) 57 ((List.replicate 12 (0 : UInt8)).map u8v), blkE (w.heap.size + 1 + 1 + 1 + 1) 26 ((putL (List.replicate 16 0) 0 (n.take 16)).map u8v), blkE (w.heap.size + 1 + 1 + 1) 57 (aeZ 12), blkE (w.heap.size + 1 + 1) 23 (aeZ 32), blkE (w.heap.size + 1) 25 (n.map u8v), blkE w.heap.size 23 (k.map u8v)] wy2 from HM.out.put 1 rfl _ hg hb)
 clear hb hg
 refine hK.out _ _ (HM.out.erase 1) (fun hHeld => ?_)
 clear hK K
 (try simp only [Act.put, sA, s0, s1])
 refine wpAnyH_done (by kernel_rfl) ?_ _
 have hp1 : putL (List.replicate 16 0) 0 (n.take 16) = n.take 16 := by
  rw [putL, List.take_zero, List.nil_append, HL16.out, List.drop_of_length_le (by simp), List.append_nil]
 rw [hp1] at HM
 clear hp1 hHeld
 go_upto_region 4 with fail
 generalize hw4 : wy2 = w4 at HM ⊢
 clear hw4
 refine wp_region_held_drew (S := fun W' => Mem w [blkE (w.heap.size + 1 + 1 + 1 + 1) 26 ((n.take 16).map u8v), blkE (w.heap.size + 1 + 1 + 1) 57 (aeZ 12), blkE (w.heap.size + 1 + 1) 23 (aeZ 32), blkE (w.heap.size + 1) 25 (n.map u8v), blkE w.heap.size 23 (k.map u8v)] W') (by kernel_rfl) ((HM.out.erase 0).drew) (fun hHeld => ?_)
 replace HM := Lib.hid HM.out.drew
 generalize w4.drew = wd2 at HM hHeld ⊢
 refine tf (v := ?_) 0 rfl (Or.inl ⟨by rfl, ?_⟩) ?_
 rotate_left
 · (intro w hSw; (try dsimp only at hSw); go_simp; try with_reducible rfl)
 (try simp only [Act.put, sA, s0, s1])
 refine tf (v := ?_) 1 rfl (Or.inl ⟨by rfl, ?_⟩) ?_
 rotate_left
 · (intro w hSw; (try dsimp only at hSw); go_simp; try with_reducible rfl)
 (try simp only [Act.put, sA, s0, s1])
 refine so 2 rfl fun K hK => ?_
 clear hHeld
 refine step_copy_bytes _ rfl (.tmp 11) (.tmp 12) 29 29 (by rfl) 5 Tryz.underlying29 (by kernel_rfl) (w.heap.size + 1 + 1 + 1 + 1 + 1) 4 8 8 ⟨(w.heap.size + 1), 16, none⟩ 8 8 (by rfl) (by rfl) ((List.replicate 12 (0 : UInt8)).map u8v) 57 (HM.out.blk 0 rfl) ((n.drop 16).map u8v) (by rw [List.length_map, HL8.out]; rfl) (show Rd wd2 (w.heap.size + 1 + 1) (some ⟨w.heap.size + 1, 16, none⟩) 8 (n.drop 16) from by have h := ((HM.out.blk 4 rfl).rd 16 8 (by rw [HL.out.2]; omega)); rwa [List.take_of_length_le (by rw [HL8.out]; omega)] at h).src (by rw [List.length_map, List.length_map, HL8.out]; decide) (u8v_one _) ?_
 intro wz2 hb hg
 rw [putL_map] at hb
 replace HM := Lib.hid (show Mem w [blkE (w.heap.size + 1 + 1 + 1 + 1 + 1) 57 ((putL (List.replicate 12 0) 4 (n.drop 16)).map u8v), blkE (w.heap.size + 1 + 1 + 1 + 1) 26 ((n.take 16).map u8v), blkE (w.heap.size + 1 + 1 + 1) 57 (aeZ 12), blkE (w.heap.size + 1 + 1) 23 (aeZ 32), blkE (w.heap.size + 1) 25 (n.map u8v), blkE w.heap.size 23 (k.map u8v)] wz2 from HM.out.put 0 rfl _ hg hb)
 clear hb hg
 refine hK.out _ _ (HM.out.erase 0) (fun hHeld => ?_)
 clear hK K
 (try simp only [Act.put, sA, s0, s1])
 refine wpAnyH_done (by kernel_rfl) ?_ _
 have hp2 : putL (List.replicate 12 0) 4 (n.drop 16) = longN n := by
  rw [putL, HL8.out, show (List.replicate 12 (0 : UInt8)).drop (4 + 8) = [] from rfl, List.append_nil]; rfl
 rw [hp2] at HM
 clear hp2 hHeld
 go_upto_region 5 with fail
 generalize hw7 : wz2 = w7 at HM ⊢
 clear hw7
 refine wp_region_held_drew (S := fun W' => Mem w [blkE (w.heap.size + 1 + 1 + 1 + 1 + 1) 57 ((longN n).map u8v), blkE (w.heap.size + 1 + 1 + 1 + 1) 26 ((n.take 16).map u8v), blkE (w.heap.size + 1) 25 (n.map u8v), blkE w.heap.size 23 (k.map u8v)] W') (by kernel_rfl) (((HM.out.erase 2).erase 2).drew) (fun hHeld => ?_)
 replace HM := Lib.hid HM.out.drew
 generalize w7.drew = wd1 at HM hHeld ⊢
 refine tf (v := .agg ck) 0 rfl (by rw [← HC.out.1]; exact yields_load_blk (by rfl) 23 (.tmp 2) rfl w.heap.size rfl 23 (k.map u8v) (fun w' hb => hb.blk 3 rfl) 32 5 Tryz.underlying23 (cells32 k HL.out.1)) ?_
 (try simp only [Act.put, sA, s0, s1])
 refine tf (v := .agg ci) 1 rfl (by rw [← HC.out.2.1]; exact yields_load_blk (by rfl) 26 (.tmp 6) rfl (w.heap.size + 1 + 1 + 1 + 1) rfl 26 ((n.take 16).map u8v) (fun w' hb => hb.blk 1 rfl) 16 5 Tryz.underlying26 (xc_cells16 _ HL16.out)) ?_
 (try simp only [Act.put, sA, s0, s1])
 refine tf (v := .agg co) 3 rfl (by rw [← HC.out.2.2.1]; exact yields_load_blk (by rfl) 57 (.tmp 7) rfl (w.heap.size + 1 + 1 + 1 + 1 + 1) rfl 57 ((longN n).map u8v) (fun w' hb => hb.blk 0 rfl) 12 5 Tryz.underlying57 (ae_cellsN _ HLN.out)) ?_
 (try simp only [Act.put, sA, s0, s1])
 refine so 2 rfl fun K hK => ?_
 clear hHeld
 go_simp
 refine (HDC.out _).mono ?_
 rintro e wy2 ⟨rfl, hb⟩
 replace HM := Lib.hid (show Mem w [blkE (w.heap.size + 1 + 1 + 1 + 1 + 1) 57 ((longN n).map u8v), blkE (w.heap.size + 1 + 1 + 1 + 1) 26 ((n.take 16).map u8v), blkE (w.heap.size + 1 + 1 + 1) 57 (aeZ 12), blkE (w.heap.size + 1 + 1) 23 (aeZ 32), blkE (w.heap.size + 1) 25 (n.map u8v), blkE w.heap.size 23 (k.map u8v)] wy2 from HM.out.below hb)
 clear hb
 go_wp2_with fail
 refine hK.out _ _ ((HM.out.erase 2).erase 2) (fun hHeld => ?_)
 clear hK K
 (try simp only [Act.put, sA, s0, s1])
 refine so 4 rfl fun K hK => ?_
 clear hHeld
 refine step_store_blk _ rfl 23 (.tmp 4) (.tmp 16) rfl (w.heap.size + 1 + 1) ((longK k n).map u8v) rfl (by show Value.agg cd = _; rw [HC.out.2.2.2]) 23 (aeZ 32) (HM.out.blk 3 rfl) (cells32 _ (longK_length k n)) (by rw [List.length_map, longK_length]; rfl) (u8v_one _) ?_
 intro wy3 hb hg
 replace HM := Lib.hid (show Mem w [blkE (w.heap.size + 1 + 1 + 1 + 1 + 1) 57 ((longN n).map u8v), blkE (w.heap.size + 1 + 1 + 1 + 1) 26 ((n.take 16).map u8v), blkE (w.heap.size + 1 + 1 + 1) 57 (aeZ 12), blkE (w.heap.size + 1 + 1) 23 ((longK k n).map u8v), blkE (w.heap.size + 1) 25 (n.map u8v), blkE w.heap.size 23 (k.map u8v)] wy3 from HM.out.put 3 rfl _ hg hb)
 clear hb hg
 refine hK.out _ _ ((HM.out.erase 2).erase 2) (fun hHeld => ?_)
 clear hK K
 (try simp only [Act.put])
 refine so 5 rfl fun K hK => ?_
 clear hHeld
 refine step_store_blk _ rfl 57 (.tmp 5) (.tmp 17) rfl (w.heap.size + 1 + 1 + 1) ((longN n).map u8v) rfl (by show Value.agg co = _; rw [HC.out.2.2.1]) 57 (aeZ 12) (HM.out.blk 2 rfl) (ae_cellsN _ HLN.out) (by rw [List.length_map, HLN.out]; rfl) (u8v_one _) ?_
 intro wy4 hb hg
 replace HM := Lib.hid (show Mem w [blkE (w.heap.size + 1 + 1 + 1 + 1 + 1) 57 ((longN n).map u8v), blkE (w.heap.size + 1 + 1 + 1 + 1) 26 ((n.take 16).map u8v), blkE (w.heap.size + 1 + 1 + 1) 57 ((longN n).map u8v), blkE (w.heap.size + 1 + 1) 23 ((longK k n).map u8v), blkE (w.heap.size + 1) 25 (n.map u8v), blkE w.heap.size 23 (k.map u8v)] wy4 from HM.out.put 2 rfl _ hg hb)
 clear hb hg
 refine hK.out _ _ ((HM.out.erase 2).erase 2) (fun hHeld => ?_)
 clear hK K
 (try simp only [Act.put])
 refine wpAnyH_done (by kernel_rfl) ?_ _
 go_wp2_with fail
 exact bodyPost_ret (results_blk2 rfl _ _ (w.heap.size + 1 + 1) 23 ((longK k n).map u8v) 32 5 rfl (HM.out.blk 3 rfl) Tryz.underlying23 (cells32 _ (longK_length k n)) (w.heap.size + 1 + 1 + 1) 57 ((longN n).map u8v) 12 5 rfl (HM.out.blk 2 rfl) Tryz.underlying57 (ae_cellsN _ HLN.out)) rfl ⟨rfl, HM.out.bel⟩
set_option maxRecDepth 100000 in
set_option maxHeartbeats 4000000 in
theorem refXSeal_any (k n : List UInt8) (hk : k.length = 32) (hn : n.length = 24) (Ap Am : Option Addr) (np cp nm cm : Nat) (pl more : List UInt8) (hnp : np ≤ 300000) (hnm : nm ≤ 300000) (w : World) (hrp : Rd w w.heap.size Ap np pl) (hrm : Rd w w.heap.size Am nm more) :
 Calls Tryz.prog 10 #[.agg (k.map u8v).toArray, .agg (n.map u8v).toArray, .slice Ap np cp, .slice Am nm cm] w fun e w' => ∃ A c', e = .returned (.slice A (np + 16) c') ∧ w'.ownsRow w.heap.size 5 1 (.slice A (np + 16) c') (np + 16) ((xsealL k n pl more).map u8v) ∧ Below w.heap.size w w' := by
 have SH := fun w' : World => refShort_any k n hk hn w'
 have SE := refSeal_any (fun k n hk hn c D m cap l hm w hr => refXor_own k n hk hn c D m cap l hm w hr) (fun k n hk hn c w => refBlock_any k n hk hn c w) (fun k hk D n cap l h1 h2 w hr => refPoly_any k hk D n cap l h1 h2 w hr) (longK k n) (longN n) (longK_length k n) (longN_length n hn)
 have HLN := Lib.hid (longN_length n hn)
 obtain ⟨ck, hck⟩ : ∃ ck, (k.map u8v).toArray = ck := ⟨_, rfl⟩
 obtain ⟨cn, hcn⟩ : ∃ c, (n.map u8v).toArray = c := ⟨_, rfl⟩
 obtain ⟨cd, hcd⟩ : ∃ c, ((longK k n).map u8v).toArray = c := ⟨_, rfl⟩
 obtain ⟨co, hco⟩ : ∃ c, ((longN n).map u8v).toArray = c := ⟨_, rfl⟩
 rw [hck, hcn, hcd, hco] at SH
 rw [hcd, hco] at SE
 rw [hck, hcn]
 have HM := Lib.hid (show Mem w [blkE (w.heap.size + 1) 25 (n.map u8v), blkE w.heap.size 23 (k.map u8v)] ((w.alloc (.cells ck 23)).alloc (.cells cn 25)) from ((Mem.nil w).alloc rfl 23 ck (k.map u8v) hck.symm).alloc (by simp) 25 cn (n.map u8v) hcn.symm)
 have HC := Lib.hid (And.intro hck (And.intro hcn (And.intro hcd hco)))
 have HL := Lib.hid (And.intro hk hn)
 have HSH := Lib.hid SH
 have HSE := Lib.hid SE
 clear hck hcn hcd hco hk hn SH SE
 go_enter Tryz.func10, Tryz.ntmps10
 go_upto_region 1 with fail
 generalize ((w.alloc (.cells ck 23)).alloc (.cells cn 25)) = w1 at HM ⊢
 go_wp2_with (first | (refine wpList_load_blk rfl 23 (.tmp 4) rfl w.heap.size rfl 23 (k.map u8v) (HM.out.blk 1 rfl) 32 5 Tryz.underlying23 (cells32 k HL.out.1) ?_; rw [HC.out.1]) | (refine wpList_load_blk rfl 25 (.tmp 5) rfl (w.heap.size + 1) rfl 25 (n.map u8v) (HM.out.blk 0 rfl) 24 5 Tryz.underlying25 (xc_cellsL n HL.out.2) ?_; rw [HC.out.2.1]))
 refine (HSH.out _).mono ?_
 rintro e w2 ⟨rfl, hb⟩
 replace HM := Lib.hid (show Mem w [blkE (w.heap.size + 1) 25 (n.map u8v), blkE w.heap.size 23 (k.map u8v)] w2 from HM.out.below hb)
 clear hb
 have HA := Lib.hid (show Mem w [blkE (w2.heap.size + 1) 57 (aeZ 12), blkE w2.heap.size 23 (aeZ 32), blkE (w.heap.size + 1) 25 (n.map u8v), blkE w.heap.size 23 (k.map u8v)] ((w2.alloc (.cells zb32 23)).alloc (.cells #[.int .u8 0, .int .u8 0, .int .u8 0, .int .u8 0, .int .u8 0, .int .u8 0, .int .u8 0, .int .u8 0, .int .u8 0, .int .u8 0, .int .u8 0, .int .u8 0] 57)) from (HM.out.alloc rfl 23 zb32 (aeZ 32) rfl).alloc (by simp) 57 #[.int .u8 0, .int .u8 0, .int .u8 0, .int .u8 0, .int .u8 0, .int .u8 0, .int .u8 0, .int .u8 0, .int .u8 0, .int .u8 0, .int .u8 0, .int .u8 0] (aeZ 12) rfl)
 go_upto_region 2 with (first | (refine wpList_store_blk rfl 23 (.tmp 9) (.tmp 15) rfl w2.heap.size ((longK k n).map u8v) rfl (by show Value.agg cd = _; rw [HC.out.2.2.1]) 23 (aeZ 32) (HA.out.blk 1 rfl) (cells32 _ (longK_length k n)) (by rw [List.length_map, longK_length]; rfl) (u8v_one _) ?_; intro w3 hb3 hg3) | (refine wpList_store_blk rfl 57 (.tmp 10) (.tmp 16) rfl (w2.heap.size + 1) ((longN n).map u8v) rfl (by show Value.agg co = _; rw [HC.out.2.2.2]) 57 (aeZ 12) ((HA.out.put 1 rfl ((longK k n).map u8v) hg3 hb3).blk 0 rfl) (ae_cellsN _ HLN.out) (by rw [List.length_map, HLN.out]; rfl) (u8v_one _) ?_; intro w4 hb4 hg4))
 (try simp only [Act.put])
 replace HM := Lib.hid (show Mem w [blkE (w2.heap.size + 1) 57 ((longN n).map u8v), blkE w2.heap.size 23 ((longK k n).map u8v), blkE (w.heap.size + 1) 25 (n.map u8v), blkE w.heap.size 23 (k.map u8v)] w4 from (HA.out.put 1 rfl ((longK k n).map u8v) hg3 hb3).put 0 rfl ((longN n).map u8v) hg4 hb4)
 clear hb3 hg3 hb4 hg4 HA
 generalize w2.heap.size = P at HM ⊢
 go_wp2_with (first | (refine wpList_load_blk rfl 23 (.tmp 9) rfl P rfl 23 ((longK k n).map u8v) (HM.out.blk 1 rfl) 32 5 Tryz.underlying23 (cells32 _ (longK_length k n)) ?_; rw [HC.out.2.2.1]) | (refine wpList_load_blk rfl 57 (.tmp 10) rfl (P + 1) rfl 57 ((longN n).map u8v) (HM.out.blk 0 rfl) 12 5 Tryz.underlying57 (ae_cellsN _ HLN.out) ?_; rw [HC.out.2.2.2]))
 refine (HSE.out Ap Am np cp nm cm pl more hnp hnm _ (HM.out.arg hrp) (HM.out.arg hrm)).mono ?_
 rintro e w5 ⟨A5, c5, rfl, ho, hb⟩
 have HF := Lib.hid (And.intro (own_base ho HM.out.size) (HM.out.below hb).bel)
 clear ho hb HM
 go_wp2
 go_ret
 exact ⟨_, _, rfl, HF.out.1, HF.out.2⟩
set_option maxRecDepth 100000 in
set_option maxHeartbeats 4000000 in
theorem refXOpen_any (k n : List UInt8) (hk : k.length = 32) (hn : n.length = 24) (As Am : Option Addr) (ns cs0 nm cm : Nat) (sl more : List UInt8) (hns : ns ≤ 300000) (hnc : ns ≤ cs0) (hcm : cs0 ≤ maxLen) (hnm : nm ≤ 300000) (w : World) (hrs : Rd w w.heap.size As ns sl) (hrm : Rd w w.heap.size Am nm more) :
 Calls Tryz.prog 19 #[.agg (k.map u8v).toArray, .agg (n.map u8v).toArray, .slice As ns cs0, .slice Am nm cm] w fun e w' => ∃ A c', e = .returned (.tuple #[.slice A (xopenL k n sl more).1.length c', .int .i64 ((xopenL k n sl more).2 : Int)]) ∧ Rd w' w'.heap.size A (xopenL k n sl more).1.length (xopenL k n sl more).1 ∧ Below w.heap.size w w' := by
 have SH := fun w' : World => refShort_any k n hk hn w'
 have SE := refOpen_any (fun k n hk hn c D m cap l hm w hr => refXor_own k n hk hn c D m cap l hm w hr) (fun k n hk hn c w => refBlock_any k n hk hn c w) (fun k hk D n cap l h1 h2 w hr => refPoly_any k hk D n cap l h1 h2 w hr) (longK k n) (longN n) (longK_length k n) (longN_length n hn)
 have HLN := Lib.hid (longN_length n hn)
 obtain ⟨ck, hck⟩ : ∃ ck, (k.map u8v).toArray = ck := ⟨_, rfl⟩
 obtain ⟨cn, hcn⟩ : ∃ c, (n.map u8v).toArray = c := ⟨_, rfl⟩
 obtain ⟨cd, hcd⟩ : ∃ c, ((longK k n).map u8v).toArray = c := ⟨_, rfl⟩
 obtain ⟨co, hco⟩ : ∃ c, ((longN n).map u8v).toArray = c := ⟨_, rfl⟩
 rw [hck, hcn, hcd, hco] at SH
 rw [hcd, hco] at SE
 rw [hck, hcn]
 have HM := Lib.hid (show Mem w [blkE (w.heap.size + 1) 25 (n.map u8v), blkE w.heap.size 23 (k.map u8v)] ((w.alloc (.cells ck 23)).alloc (.cells cn 25)) from ((Mem.nil w).alloc rfl 23 ck (k.map u8v) hck.symm).alloc (by simp) 25 cn (n.map u8v) hcn.symm)
 have HC := Lib.hid (And.intro hck (And.intro hcn (And.intro hcd hco)))
 have HL := Lib.hid (And.intro hk hn)
 have HSH := Lib.hid SH
 have HSE := Lib.hid SE
 clear hck hcn hcd hco hk hn SH SE
 have HX := Lib.hid (show openL (longK k n) (longN n) sl more = xopenL k n sl more from rfl)
 go_enter Tryz.func19, Tryz.ntmps19
 go_upto_region 1 with fail
 generalize ((w.alloc (.cells ck 23)).alloc (.cells cn 25)) = w1 at HM ⊢
 go_wp2_with (first | (refine wpList_load_blk rfl 23 (.tmp 4) rfl w.heap.size rfl 23 (k.map u8v) (HM.out.blk 1 rfl) 32 5 Tryz.underlying23 (cells32 k HL.out.1) ?_; rw [HC.out.1]) | (refine wpList_load_blk rfl 25 (.tmp 5) rfl (w.heap.size + 1) rfl 25 (n.map u8v) (HM.out.blk 0 rfl) 24 5 Tryz.underlying25 (xc_cellsL n HL.out.2) ?_; rw [HC.out.2.1]))
 refine (HSH.out _).mono ?_
 rintro e w2 ⟨rfl, hb⟩
 replace HM := Lib.hid (show Mem w [blkE (w.heap.size + 1) 25 (n.map u8v), blkE w.heap.size 23 (k.map u8v)] w2 from HM.out.below hb)
 clear hb
 have HA := Lib.hid (show Mem w [blkE (w2.heap.size + 1) 57 (aeZ 12), blkE w2.heap.size 23 (aeZ 32), blkE (w.heap.size + 1) 25 (n.map u8v), blkE w.heap.size 23 (k.map u8v)] ((w2.alloc (.cells zb32 23)).alloc (.cells #[.int .u8 0, .int .u8 0, .int .u8 0, .int .u8 0, .int .u8 0, .int .u8 0, .int .u8 0, .int .u8 0, .int .u8 0, .int .u8 0, .int .u8 0, .int .u8 0] 57)) from (HM.out.alloc rfl 23 zb32 (aeZ 32) rfl).alloc (by simp) 57 #[.int .u8 0, .int .u8 0, .int .u8 0, .int .u8 0, .int .u8 0, .int .u8 0, .int .u8 0, .int .u8 0, .int .u8 0, .int .u8 0, .int .u8 0, .int .u8 0] (aeZ 12) rfl)
 go_upto_region 2 with (first | (refine wpList_store_blk rfl 23 (.tmp 10) (.tmp 16) rfl w2.heap.size ((longK k n).map u8v) rfl (by show Value.agg cd = _; rw [HC.out.2.2.1]) 23 (aeZ 32) (HA.out.blk 1 rfl) (cells32 _ (longK_length k n)) (by rw [List.length_map, longK_length]; rfl) (u8v_one _) ?_; intro w3 hb3 hg3) | (refine wpList_store_blk rfl 57 (.tmp 11) (.tmp 17) rfl (w2.heap.size + 1) ((longN n).map u8v) rfl (by show Value.agg co = _; rw [HC.out.2.2.2]) 57 (aeZ 12) ((HA.out.put 1 rfl ((longK k n).map u8v) hg3 hb3).blk 0 rfl) (ae_cellsN _ HLN.out) (by rw [List.length_map, HLN.out]; rfl) (u8v_one _) ?_; intro w4 hb4 hg4))
 (try simp only [Act.put])
 replace HM := Lib.hid (show Mem w [blkE (w2.heap.size + 1) 57 ((longN n).map u8v), blkE w2.heap.size 23 ((longK k n).map u8v), blkE (w.heap.size + 1) 25 (n.map u8v), blkE w.heap.size 23 (k.map u8v)] w4 from (HA.out.put 1 rfl ((longK k n).map u8v) hg3 hb3).put 0 rfl ((longN n).map u8v) hg4 hb4)
 clear hb3 hg3 hb4 hg4 HA
 generalize w2.heap.size = P at HM ⊢
 go_wp2_with (first | (refine wpList_load_blk rfl 23 (.tmp 10) rfl P rfl 23 ((longK k n).map u8v) (HM.out.blk 1 rfl) 32 5 Tryz.underlying23 (cells32 _ (longK_length k n)) ?_; rw [HC.out.2.2.1]) | (refine wpList_load_blk rfl 57 (.tmp 11) rfl (P + 1) rfl 57 ((longN n).map u8v) (HM.out.blk 0 rfl) 12 5 Tryz.underlying57 (ae_cellsN _ HLN.out) ?_; rw [HC.out.2.2.2]))
 refine (HSE.out As Am ns cs0 nm cm sl more hns hnc hcm hnm _ (HM.out.arg hrs) (HM.out.arg hrm)).mono ?_
 rintro e w5 ⟨A5, c5, rfl, ho, hb⟩
 rw [HX.out] at ho ⊢
 have HF := Lib.hid (And.intro ho (HM.out.below hb).bel)
 clear ho hb HM
 go_wp2
 exact bodyPost_ret (results_tmp2 rfl _ _ _) rfl ⟨_, _, rfl, HF.out.1, HF.out.2⟩
/-- what is asked of an encoder whose bytes lie in memory of its own -/
def MsEncNC (F k : Nat) : Prop := ∀ m : MsgM, m.ok k → ∀ w : World,
 Calls Tryz.prog F #[.agg m.cells.toArray] w fun e w' => ∃ A c, e = .returned (.slice A (msLen k) c) ∧ msLen k ≤ c ∧ c ≤ maxLen ∧ RdIn w.heap.size w'.heap.size A (msLen k) (encB k m) w' ∧ Below w.heap.size w w'
theorem RdIn.from_ {lo lo' hi : Nat} {A : Option Addr} {n : Nat} {l : List UInt8} {W : World} (h : RdIn lo hi A n l W) (hl : lo' ≤ lo) : RdIn lo' hi A n l W :=
 ⟨h.1, fun hn => by
  obtain ⟨b, off, e, h1, h2, hc⟩ := h.2 hn
  exact ⟨b, off, e, Nat.le_trans hl h1, h2, hc⟩⟩
theorem RdIn.of_own {w : World} {base n c : Nat} {A : Option Addr} {l : List UInt8} (ho : w.ownsRow base 5 1 (.slice A n c) n (l.map u8v)) : RdIn base w.heap.size A n l w := by
 have hr := Rd.of_own ho
 refine ⟨hr.1, fun hn => ?_⟩
 obtain ⟨b, off, e, h1, hc⟩ := hr.2 hn
 subst e
 exact ⟨b, off, rfl, (ho.lt b rfl).1, h1, hc⟩
end Go.Proofs.YtlddafkikkaonaaGreatDoor
