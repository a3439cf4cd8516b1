/-
  PolyClamps returns true for every key, data and noise, and changes nothing that was there: the walk, over what is asked of poly.Sum.
-/
import Derived.Test.YthjhohmmdnjpkaaPoBegun
import Derived.Test.YthjhohmmdnjpkaaPoLaws3
import Derived.Test.YthjhohmmdnjpkaaCut
import Derived.Laws.ShiftsVarLaws
namespace Go.Proofs.Ythjhohmmdnjpkaa
open Go.RowKit

/-- the places of the struck bits, as they lie in memory -/
def hiC : List Value := [.int .i64 3, .int .i64 7, .int .i64 11, .int .i64 15]
theorem hi_cell {w : World} {C : Nat} {t : TypeId} (h : Blk w C t hiC) (i : Nat) (hi : i < 4) : ∃ j : Nat, (j = 3 ∨ j = 7 ∨ j = 11 ∨ j = 15) ∧ w.cell? ⟨C, i, none⟩ = some (.int .i64 (j : Int)) := by
  rw [h.cell]
  match i, hi with
  | 0, _ => exact ⟨3, by omega, rfl⟩
  | 1, _ => exact ⟨7, by omega, rfl⟩
  | 2, _ => exact ⟨11, by omega, rfl⟩
  | 3, _ => exact ⟨15, by omega, rfl⟩

def loC : List Value := [.int .i64 4, .int .i64 8, .int .i64 12]
theorem lo_cell {w : World} {C : Nat} {t : TypeId} (h : Blk w C t loC) (i : Nat) (hi : i < 3) : ∃ j : Nat, (j = 4 ∨ j = 8 ∨ j = 12) ∧ w.cell? ⟨C, i, none⟩ = some (.int .i64 (j : Int)) := by
  rw [h.cell]
  match i, hi with
  | 0, _ => exact ⟨4, by omega, rfl⟩
  | 1, _ => exact ⟨8, by omega, rfl⟩
  | 2, _ => exact ⟨12, by omega, rfl⟩

set_option maxRecDepth 100000 in
set_option maxHeartbeats 4000000 in
theorem clamps_walk (HS : SumC) (w : World) (k : List UInt8) (A : Option Addr) (len cap : Nat) (l : List UInt8) (noise : Nat) (hk : k.length = 32) (hlc : len ≤ cap) (hcm : cap ≤ maxLen) (hr : Rd w w.heap.size A len l) (hns : noise ≤ 65535) :
    Calls Try.prog 5 #[.agg (k.map u8v).toArray, .slice A len cap, .int .u16 (noise : Int)] w fun e w' => e = .returned (.bool true) ∧ Below w.heap.size w w' := by
  obtain ⟨ck, hck⟩ : ∃ ck, (k.map u8v).toArray = ck := ⟨_, rfl⟩
  rw [hck]
  have HB0 := Lib.hid (show Blk (w.alloc (.cells ck 23)) w.heap.size 23 (k.map u8v) by rw [← hck]; exact Blk.new w _ _)
  have HR := Lib.hid hr
  have HK := Lib.hid hk
  have HCK := Lib.hid hck
  have HBG := Lib.hid (begun_any HS)
  have HSS := Lib.hid HS
  clear hr hk hck HS
  go_enter Try.func5, Try.ntmps5
  go_upto_region 2 with (first | (refine wpList_load_blk rfl 23 (.tmp 3) rfl w.heap.size rfl 23 (k.map u8v) HB0.out 32 5 Try.underlying23 (cells32 k HK.out) ?_; rw [HCK.out]) | (refine wpList_store_blk rfl 23 (.tmp 7) (.tmp 13) rfl (w.heap.size + 1) (k.map u8v) rfl (by show Value.agg ck = _; rw [HCK.out]) 23 z32 (Blk.new' (w.alloc (.cells ck 23)) (by simp) 23 z32) (cells32 k HK.out) (by rw [List.length_map, HK.out]; rfl) (u8v_one _) ?_; intro w1 hb1 hg1))
  simp only [Act.put]
  have H1 := Lib.hid (show Blk w1 (w.heap.size + 1) 23 (k.map u8v) ∧ Blk w1 w.heap.size 23 (k.map u8v) ∧ Below w.heap.size w w1 ∧ w.heap.size + 2 ≤ w1.heap.size from ⟨hb1, (HB0.out.alloc _).grown hg1 (by simp), Below.grown (((Below.refl _ _).alloc (Nat.le_refl _) _).alloc (by simp) (.cells z32.toArray 23)) hg1 (by simp; omega) (by intro k hk; injection hk with hk; omega), by have := hg1.size; simpa using this⟩)
  clear hb1 hg1 HB0
  go_upto_region 3 with fail
  have ga := H1.out.1.alloc (.cells hiC.toArray 3)
  have gb := H1.out.2.1.alloc (.cells hiC.toArray 3)
  have gc := H1.out.2.2.1.alloc H1.out.2.2.1.size (.cells hiC.toArray 3)
  have gd : Blk (w1.alloc (.cells hiC.toArray 3)) w1.heap.size 3 hiC := Blk.new w1 _ _
  have ge : w.heap.size + 2 ≤ w1.heap.size := H1.out.2.2.2
  rw [show hiC.toArray = #[.int .i64 3, .int .i64 7, .int .i64 11, .int .i64 15] from rfl] at ga gb gc gd
  generalize w1.alloc (.cells #[.int .i64 3, .int .i64 7, .int .i64 11, .int .i64 15] 3) = w2 at ga gb gc gd ⊢
  clear H1
  generalize w1.heap.size = C at gd ge ⊢
  have H2 := Lib.hid (And.intro ga (And.intro gb (And.intro gc gd)))
  have HGE := Lib.hid ge
  clear ga gb gc gd ge
  go_loopw [16, 8, 9] (fun v _ _ wr => ∃ (i : Nat) (x : List UInt8), i ≤ 4 ∧ v = .int .i64 (i : Int) ∧ Hid (x.length = 32 ∧ ∀ d, tagL x d = tagL k d) ∧ Blk wr (w.heap.size + 1) 23 (x.map u8v) ∧ Blk wr C 3 hiC ∧ Hid (Blk wr w.heap.size 23 (k.map u8v) ∧ Below w.heap.size w wr)) (fun v _ _ _ => 4 - (intOf v).toNat)
  case atStart => exact ⟨0, k, by omega, rfl, Lib.hid ⟨HK.out, fun _ => rfl⟩, H2.out.1, H2.out.2.2.2, Lib.hid ⟨H2.out.2.1, H2.out.2.2.1⟩⟩
  case round =>
    clear H2
    obtain ⟨i, x, hi, rfl, HXL, hx, hc, HX⟩ := hrel
    by_cases hlt : i < 4
    · have d4 : decide ((i : Int) < 4) = true := by simp; omega
      obtain ⟨j, hj, fc⟩ := hi_cell hc i hlt
      have fx := hx.key j (by rw [HXL.out.1]; omega)
      have zx := hx.frozen j
      have bj : (j : Int) < 32 := by omega
      obtain ⟨q, hq⟩ : ∃ q, 4 * i = q := ⟨_, rfl⟩
      have hmw : IntKind.i64.wrap (4 * (i : Int)) = (q : Int) := by rw [← hq, Int.natCast_mul]; exact IntWalk.i64_in _ (by omega)
      clear hq
      obtain ⟨t, ht⟩ : ∃ t, noise / 2 ^ min q 16 = t := ⟨_, rfl⟩
      have hsh : (noise : Int) / 2 ^ min q 16 = (t : Int) := by rw [← ht, Int.natCast_ediv, Int.natCast_pow]; rfl
      have ht16 : t ≤ 65535 := by rw [← ht]; exact Nat.le_trans (Nat.div_le_self _ _) hns
      clear ht
      obtain ⟨a, ha⟩ : ∃ a, t % 256 = a := ⟨_, rfl⟩
      have hcv : (t : Int) % 256 = (a : Int) := by omega
      have hcw : IntKind.u8.wrap (t : Int) = (a : Int) := by rw [IntKind.wrap_u8]; exact hcv
      obtain ⟨y, hy⟩ : ∃ y : UInt8, y.toNat = a * 16 % 256 := ⟨UInt8.ofNat (a * 16), by rw [UInt8.toNat_ofNat']⟩
      have hsw : IntKind.u8.wrap ((a : Int) * 16) = (y.toNat : Int) := by rw [IntKind.wrap_u8]; omega
      have hy16 : y.toNat % 16 = 0 := by omega
      have hxo : bits BinOp.xor IntKind.u8 (kb x j : Int) (y.toNat : Int) = ((x.getD j 0 ^^^ y).toNat : Int) := by
        show bits BinOp.xor IntKind.u8 ((x.getD j 0).toNat : Int) (y.toNat : Int) = _
        rw [UInt8.toNat_xor, u8_xor_nat _ _ (x.getD j 0).toNat_lt y.toNat_lt]
      obtain ⟨z, hz⟩ : ∃ z, x.getD j 0 ^^^ y = z := ⟨_, rfl⟩
      have HZ := Lib.hid (And.intro hz hy16)
      rw [hz] at hxo
      obtain ⟨b, hb⟩ : ∃ b, kb x j = b := ⟨_, rfl⟩
      rw [hb] at hxo fx
      clear ha hy hy16 hz hb
      have HJ := Lib.hid hj
      have HB := Lib.hid (And.intro hx hc)
      clear hx hc hj
      go_upto_region 5 with fail
      clear fc d4
      refine wp_region_held_drew (S := fun _ => True) (by kernel_rfl) (trivial) (fun hHeld => ?_)
      refine take_first (v := ?_) 0 rfl (by kernel_rfl) (by kernel_rfl) (by kernel_rfl) (fun _ _ _ h => h) (Or.inl ⟨by rfl, ?_⟩) (by assumption) ?_
      rotate_left
      · (intro w hSw; (try dsimp only at hSw); go_simp; try with_reducible rfl)
      (try simp only [Act.put, List.setIfInBounds_toArray, List.set_cons_zero, List.set_cons_succ])
      refine take_first (v := ?_) 1 rfl (by kernel_rfl) (by kernel_rfl) (by kernel_rfl) (fun _ _ _ h => h) (Or.inl ⟨by rfl, ?_⟩) (by assumption) ?_
      rotate_left
      · (intro w hSw; (try dsimp only at hSw); go_simp; try with_reducible rfl)
      (try simp only [Act.put, List.setIfInBounds_toArray, List.set_cons_zero, List.set_cons_succ])
      refine take_first (v := ?_) 3 rfl (by kernel_rfl) (by kernel_rfl) (by kernel_rfl) (fun _ _ _ h => h) (Or.inl ⟨by rfl, ?_⟩) (by assumption) ?_
      rotate_left
      · (intro w hSw; (try dsimp only at hSw); go_simp; try with_reducible rfl)
      (try simp only [Act.put, List.setIfInBounds_toArray, List.set_cons_zero, List.set_cons_succ])
      refine take_first (v := ?_) 4 rfl (by kernel_rfl) (by kernel_rfl) (by kernel_rfl) (fun _ _ _ h => h) (Or.inl ⟨by rfl, ?_⟩) (by assumption) ?_
      rotate_left
      · (intro w hSw; (try dsimp only at hSw); go_simp; try with_reducible rfl)
      (try simp only [Act.put, List.setIfInBounds_toArray, List.set_cons_zero, List.set_cons_succ])
      refine take_first (v := ?_) 5 rfl (by kernel_rfl) (by kernel_rfl) (by kernel_rfl) (fun _ _ _ h => h) (Or.inl ⟨by rfl, ?_⟩) (by assumption) ?_
      rotate_left
      · (intro w hSw; (try dsimp only at hSw); go_simp; try with_reducible rfl)
      (try simp only [Act.put, List.setIfInBounds_toArray, List.set_cons_zero, List.set_cons_succ])
      refine take_first (v := ?_) 6 rfl (by kernel_rfl) (by kernel_rfl) (by kernel_rfl) (fun _ _ _ h => h) (Or.inl ⟨by rfl, ?_⟩) (by assumption) ?_
      rotate_left
      · (intro w hSw; (try dsimp only at hSw); go_simp; try with_reducible rfl)
      (try simp only [Act.put, List.setIfInBounds_toArray, List.set_cons_zero, List.set_cons_succ])
      refine take_first (v := ?_) 7 rfl (by kernel_rfl) (by kernel_rfl) (by kernel_rfl) (fun _ _ _ h => h) (Or.inl ⟨by rfl, ?_⟩) (by assumption) ?_
      rotate_left
      · (intro w hSw; (try dsimp only at hSw); go_simp; try with_reducible rfl)
      (try simp only [Act.put, List.setIfInBounds_toArray, List.set_cons_zero, List.set_cons_succ])
      refine take_first (v := ?_) 8 rfl (by kernel_rfl) (by kernel_rfl) (by kernel_rfl) (fun _ _ _ h => h) (Or.inl ⟨by rfl, ?_⟩) (by assumption) ?_
      rotate_left
      · (intro w hSw; (try dsimp only at hSw); go_simp; try with_reducible rfl)
      (try simp only [Act.put, List.setIfInBounds_toArray, List.set_cons_zero, List.set_cons_succ])
      refine step_one 2 rfl (by kernel_rfl) (fun K hK => ?_)
      go_simp
      refine hK.out _ _ trivial (fun hHeld => ?_)
      clear hK K
      (try simp only [Act.put, List.setIfInBounds_toArray, List.set_cons_zero, List.set_cons_succ])
      refine take_first (v := ?_) 9 rfl (by kernel_rfl) (by kernel_rfl) (by kernel_rfl) (fun _ _ _ h => h) (Or.inl ⟨by rfl, ?_⟩) (by assumption) ?_
      rotate_left
      · (intro w hSw; (try dsimp only at hSw); go_simp; try with_reducible rfl)
      (try simp only [Act.put, List.setIfInBounds_toArray, List.set_cons_zero, List.set_cons_succ])
      refine take_first (v := ?_) 10 rfl (by kernel_rfl) (by kernel_rfl) (by kernel_rfl) (fun _ _ _ h => h) (Or.inl ⟨by rfl, ?_⟩) (by assumption) ?_
      rotate_left
      · (intro w hSw; (try dsimp only at hSw); go_simp; try with_reducible rfl)
      (try simp only [Act.put, List.setIfInBounds_toArray, List.set_cons_zero, List.set_cons_succ])
      refine step_one 11 rfl (by kernel_rfl) (fun K hK => ?_)
      go_simp
      refine hK.out _ _ trivial (fun hHeld => ?_)
      clear hK K
      refine wpAnyH_done (by kernel_rfl) ?_ _
      have hgc := HGE.out
      have hset := HB.out.1.set_ j (u8v z)
      rw [← List.map_set] at hset
      have HN := Lib.hid (And.intro hset (And.intro (HB.out.2.far (p := ⟨w.heap.size + 1, j, none⟩) (by simp; omega) (u8v z)) (And.intro (HX.out.1.far (p := ⟨w.heap.size + 1, j, none⟩) (by simp) (u8v z)) (HX.out.2.setCell (p := ⟨w.heap.size + 1, j, none⟩) (by dsimp only; omega) (u8v z)))))
      clear hset hHeld hsh hcv hcw hsw hxo hmw fx zx bj hgc
      go_wp2_with fail
      go_roundw
      case rel => exact ⟨i + 1, x.set j z, by omega, by go_num, Lib.hid ⟨by rw [List.length_set]; exact HXL.out.1, fun d => by rw [← HZ.out.1, tag_hi x HXL.out.1 j HJ.out y HZ.out.2]; exact HXL.out.2 d⟩, HN.out.1.drew, HN.out.2.1.drew, Lib.hid ⟨HN.out.2.2.1.drew, HN.out.2.2.2.drew⟩⟩
      case measure => simp [intOf]; omega
    · obtain rfl : i = 4 := by omega
      have H3 := Lib.hid (And.intro hx (And.intro HX.out.1 HX.out.2))
      have HSZ := Lib.hid hc.lt
      clear hx hc HX
      rw [show ((4 : Nat) : Int) = 4 from rfl]
      go_upto_region 8 with fail
      have ga := H3.out.1.alloc (.cells loC.toArray 3)
      have gb := H3.out.2.1.alloc (.cells loC.toArray 3)
      have gc := H3.out.2.2.alloc H3.out.2.2.size (.cells loC.toArray 3)
      have gd : Blk (wr.alloc (.cells loC.toArray 3)) wr.heap.size 3 loC := Blk.new wr _ _
      have ge : w.heap.size + 2 ≤ wr.heap.size := by have := HSZ.out; have := HGE.out; omega
      rw [show loC.toArray = #[.int .i64 4, .int .i64 8, .int .i64 12] from rfl] at ga gb gc gd
      generalize wr.alloc (.cells #[.int .i64 4, .int .i64 8, .int .i64 12] 3) = w4 at ga gb gc gd ⊢
      clear H3 HSZ HGE
      generalize wr.heap.size = C2 at gd ge ⊢
      have H4 := Lib.hid (And.intro ga (And.intro gb (And.intro gc gd)))
      have HGE := Lib.hid ge
      clear ga gb gc gd ge
      go_loopw [35, 10, 11] (fun v _ _ wr => ∃ (i : Nat) (x : List UInt8), i ≤ 3 ∧ v = .int .i64 (i : Int) ∧ Hid (x.length = 32 ∧ ∀ d, tagL x d = tagL k d) ∧ Blk wr (w.heap.size + 1) 23 (x.map u8v) ∧ Blk wr C2 3 loC ∧ Hid (Blk wr w.heap.size 23 (k.map u8v) ∧ Below w.heap.size w wr)) (fun v _ _ _ => 3 - (intOf v).toNat)
      case atStart => exact ⟨0, x, by omega, rfl, HXL, H4.out.1, H4.out.2.2.2, Lib.hid ⟨H4.out.2.1, H4.out.2.2.1⟩⟩
      case round =>
        clear H4 HXL
        obtain ⟨i, x, hi, rfl, HXL, hx, hc, HX⟩ := hrel
        by_cases hlt : i < 3
        · have d3 : decide ((i : Int) < 3) = true := by simp; omega
          obtain ⟨j, hj, fc⟩ := lo_cell hc i hlt
          have fx := hx.key j (by rw [HXL.out.1]; omega)
          have zx := hx.frozen j
          have bj : (j : Int) < 32 := by omega
          obtain ⟨q, hq⟩ : ∃ q, 2 * i = q := ⟨_, rfl⟩
          have hmw : IntKind.i64.wrap (2 * (i : Int)) = (q : Int) := by rw [← hq, Int.natCast_mul]; exact IntWalk.i64_in _ (by omega)
          clear hq
          obtain ⟨t, ht⟩ : ∃ t, noise / 2 ^ min q 16 = t := ⟨_, rfl⟩
          have hsh : (noise : Int) / 2 ^ min q 16 = (t : Int) := by rw [← ht, Int.natCast_ediv, Int.natCast_pow]; rfl
          have ht16 : t ≤ 65535 := by rw [← ht]; exact Nat.le_trans (Nat.div_le_self _ _) hns
          clear ht
          obtain ⟨a, ha⟩ : ∃ a, t % 256 = a := ⟨_, rfl⟩
          have hcv : (t : Int) % 256 = (a : Int) := by omega
          have hcw : IntKind.u8.wrap (t : Int) = (a : Int) := by rw [IntKind.wrap_u8]; exact hcv
          have ha256 : a < 256 := by omega
          have hand : a &&& 3 ≤ 3 := Nat.and_le_right
          obtain ⟨y, hy⟩ : ∃ y : UInt8, y.toNat = a &&& 3 := ⟨UInt8.ofNat (a &&& 3), by rw [UInt8.toNat_ofNat', Nat.mod_eq_of_lt (by omega)]⟩
          have hsw : bits BinOp.and IntKind.u8 (a : Int) 3 = (y.toNat : Int) := by rw [hy]; exact u8_and_nat a 3 (by omega) (by omega)
          have hxo : bits BinOp.xor IntKind.u8 (kb x j : Int) (y.toNat : Int) = ((x.getD j 0 ^^^ y).toNat : Int) := by
            show bits BinOp.xor IntKind.u8 ((x.getD j 0).toNat : Int) (y.toNat : Int) = _
            rw [UInt8.toNat_xor, u8_xor_nat _ _ (x.getD j 0).toNat_lt y.toNat_lt]
          obtain ⟨z, hz⟩ : ∃ z, x.getD j 0 ^^^ y = z := ⟨_, rfl⟩
          have HZ := Lib.hid (And.intro hz hy)
          rw [hz] at hxo
          obtain ⟨b, hb⟩ : ∃ b, kb x j = b := ⟨_, rfl⟩
          rw [hb] at hxo fx
          clear ha hy hand hz hb
          have HJ := Lib.hid hj
          have HB := Lib.hid (And.intro hx hc)
          clear hx hc hj
          go_upto_region 10 with fail
          clear fc d3
          refine wp_region_held_drew (S := fun _ => True) (by kernel_rfl) (trivial) (fun hHeld => ?_)
          refine take_first (v := ?_) 0 rfl (by kernel_rfl) (by kernel_rfl) (by kernel_rfl) (fun _ _ _ h => h) (Or.inl ⟨by rfl, ?_⟩) (by assumption) ?_
          rotate_left
          · (intro w hSw; (try dsimp only at hSw); go_simp; try with_reducible rfl)
          (try simp only [Act.put, List.setIfInBounds_toArray, List.set_cons_zero, List.set_cons_succ])
          refine take_first (v := ?_) 1 rfl (by kernel_rfl) (by kernel_rfl) (by kernel_rfl) (fun _ _ _ h => h) (Or.inl ⟨by rfl, ?_⟩) (by assumption) ?_
          rotate_left
          · (intro w hSw; (try dsimp only at hSw); go_simp; try with_reducible rfl)
          (try simp only [Act.put, List.setIfInBounds_toArray, List.set_cons_zero, List.set_cons_succ])
          refine take_first (v := ?_) 3 rfl (by kernel_rfl) (by kernel_rfl) (by kernel_rfl) (fun _ _ _ h => h) (Or.inl ⟨by rfl, ?_⟩) (by assumption) ?_
          rotate_left
          · (intro w hSw; (try dsimp only at hSw); go_simp; try with_reducible rfl)
          (try simp only [Act.put, List.setIfInBounds_toArray, List.set_cons_zero, List.set_cons_succ])
          refine take_first (v := ?_) 4 rfl (by kernel_rfl) (by kernel_rfl) (by kernel_rfl) (fun _ _ _ h => h) (Or.inl ⟨by rfl, ?_⟩) (by assumption) ?_
          rotate_left
          · (intro w hSw; (try dsimp only at hSw); go_simp; try with_reducible rfl)
          (try simp only [Act.put, List.setIfInBounds_toArray, List.set_cons_zero, List.set_cons_succ])
          refine take_first (v := ?_) 5 rfl (by kernel_rfl) (by kernel_rfl) (by kernel_rfl) (fun _ _ _ h => h) (Or.inl ⟨by rfl, ?_⟩) (by assumption) ?_
          rotate_left
          · (intro w hSw; (try dsimp only at hSw); go_simp; try with_reducible rfl)
          (try simp only [Act.put, List.setIfInBounds_toArray, List.set_cons_zero, List.set_cons_succ])
          refine take_first (v := ?_) 6 rfl (by kernel_rfl) (by kernel_rfl) (by kernel_rfl) (fun _ _ _ h => h) (Or.inl ⟨by rfl, ?_⟩) (by assumption) ?_
          rotate_left
          · (intro w hSw; (try dsimp only at hSw); go_simp; try with_reducible rfl)
          (try simp only [Act.put, List.setIfInBounds_toArray, List.set_cons_zero, List.set_cons_succ])
          refine take_first (v := ?_) 7 rfl (by kernel_rfl) (by kernel_rfl) (by kernel_rfl) (fun _ _ _ h => h) (Or.inl ⟨by rfl, ?_⟩) (by assumption) ?_
          rotate_left
          · (intro w hSw; (try dsimp only at hSw); go_simp; try with_reducible rfl)
          (try simp only [Act.put, List.setIfInBounds_toArray, List.set_cons_zero, List.set_cons_succ])
          refine take_first (v := ?_) 8 rfl (by kernel_rfl) (by kernel_rfl) (by kernel_rfl) (fun _ _ _ h => h) (Or.inl ⟨by rfl, ?_⟩) (by assumption) ?_
          rotate_left
          · (intro w hSw; (try dsimp only at hSw); go_simp; try with_reducible rfl)
          (try simp only [Act.put, List.setIfInBounds_toArray, List.set_cons_zero, List.set_cons_succ])
          refine step_one 2 rfl (by kernel_rfl) (fun K hK => ?_)
          go_simp
          refine hK.out _ _ trivial (fun hHeld => ?_)
          clear hK K
          (try simp only [Act.put, List.setIfInBounds_toArray, List.set_cons_zero, List.set_cons_succ])
          refine take_first (v := ?_) 9 rfl (by kernel_rfl) (by kernel_rfl) (by kernel_rfl) (fun _ _ _ h => h) (Or.inl ⟨by rfl, ?_⟩) (by assumption) ?_
          rotate_left
          · (intro w hSw; (try dsimp only at hSw); go_simp; try with_reducible rfl)
          (try simp only [Act.put, List.setIfInBounds_toArray, List.set_cons_zero, List.set_cons_succ])
          refine take_first (v := ?_) 10 rfl (by kernel_rfl) (by kernel_rfl) (by kernel_rfl) (fun _ _ _ h => h) (Or.inl ⟨by rfl, ?_⟩) (by assumption) ?_
          rotate_left
          · (intro w hSw; (try dsimp only at hSw); go_simp; try with_reducible rfl)
          (try simp only [Act.put, List.setIfInBounds_toArray, List.set_cons_zero, List.set_cons_succ])
          refine step_one 11 rfl (by kernel_rfl) (fun K hK => ?_)
          go_simp
          refine hK.out _ _ trivial (fun hHeld => ?_)
          clear hK K
          refine wpAnyH_done (by kernel_rfl) ?_ _
          have hgc := HGE.out
          have hset := HB.out.1.set_ j (u8v z)
          rw [← List.map_set] at hset
          have HN := Lib.hid (And.intro hset (And.intro (HB.out.2.far (p := ⟨w.heap.size + 1, j, none⟩) (by simp; omega) (u8v z)) (And.intro (HX.out.1.far (p := ⟨w.heap.size + 1, j, none⟩) (by simp) (u8v z)) (HX.out.2.setCell (p := ⟨w.heap.size + 1, j, none⟩) (by dsimp only; omega) (u8v z)))))
          clear hset hHeld hsh hcv hcw hsw hxo hmw fx zx bj hgc
          go_wp2_with fail
          go_roundw
          case rel => exact ⟨i + 1, x.set j z, by omega, by go_num, Lib.hid ⟨by rw [List.length_set]; exact HXL.out.1, fun d => by rw [← HZ.out.1, tag_lo x HXL.out.1 j HJ.out y a HZ.out.2]; exact HXL.out.2 d⟩, HN.out.1.drew, HN.out.2.1.drew, Lib.hid ⟨HN.out.2.2.1.drew, HN.out.2.2.2.drew⟩⟩
          case measure => simp [intOf]; omega
        · obtain rfl : i = 3 := by omega
          have H5 := Lib.hid (And.intro hx HX.out)
          clear hx hc HX
          have hbel := H5.out.2.2
          rw [show ((3 : Nat) : Int) = 3 from rfl]
          have HD := Lib.hid ((HR.out.below hbel).mono hbel.size)
          clear hbel
          go_wp2_with fail
          refine (cut_any _ A len cap 100 l hlc hcm _ HD.out).mono ?_
          rintro e w5 ⟨rfl, hr5, rfl⟩
          have HR5 := Lib.hid hr5
          clear hr5
          have hn100 : min len 100 ≤ 100 := by omega
          have hncap : min len 100 ≤ cap := by omega
          generalize min len 100 = n at HR5 hn100 hncap ⊢
          generalize l.take 100 = dl at HR5
          have SX := fun (w' : World) (h : Rd w' w'.heap.size A n dl) => HSS.out x HXL.out.1 A n cap dl hncap hcm (by omega) w' h
          have SK := fun (w' : World) (h : Rd w' w'.heap.size A n dl) => HSS.out k HK.out A n cap dl hncap hcm (by omega) w' h
          obtain ⟨tg, htg⟩ : ∃ t, tagL k dl = t := ⟨_, rfl⟩
          rw [HXL.out.2 dl, htg] at SX
          rw [htg, HCK.out] at SK
          have eqT := tag_same tg (by rw [← htg]; exact tagL_length _ _)
          obtain ⟨cx, hcx⟩ : ∃ c, (x.map u8v).toArray = c := ⟨_, rfl⟩
          obtain ⟨ct, hct⟩ : ∃ c, (tg.map u8v).toArray = c := ⟨_, rfl⟩
          rw [hcx, hct] at SX
          rw [hct] at SK eqT
          have HSX := Lib.hid SX
          have HSK := Lib.hid SK
          have HCX := Lib.hid hcx
          clear SX SK hcx hct htg
          go_wp2_with fail
          refine wp_region_held_drew (S := fun w' => Below wr.heap.size wr w') (by kernel_rfl) ((Below.refl wr.heap.size wr).drew) (fun hHeld => ?_)
          refine take_first (v := .agg cx) 0 rfl (by kernel_rfl) (by kernel_rfl) (by kernel_rfl) (fun _ _ _ h => h) (by rw [← HCX.out]; exact yields_load_blk (by rfl) 23 (.tmp 7) rfl (w.heap.size + 1) rfl 23 (x.map u8v) (fun w' hb => H5.out.1.below hb H5.out.1.lt) 32 5 Try.underlying23 (cells32 _ HXL.out.1)) (by assumption) ?_
          (try simp only [Act.put, List.setIfInBounds_toArray, List.set_cons_zero, List.set_cons_succ])
          refine take_first (v := ?_) 1 rfl (by kernel_rfl) (by kernel_rfl) (by kernel_rfl) (fun _ _ _ h => h) (Or.inl ⟨by rfl, ?_⟩) (by assumption) ?_
          rotate_left
          · (intro w hSw; (try dsimp only at hSw); go_simp; try with_reducible rfl)
          (try simp only [Act.put, List.setIfInBounds_toArray, List.set_cons_zero, List.set_cons_succ])
          refine take_first (v := .agg ck) 3 rfl (by kernel_rfl) (by kernel_rfl) (by kernel_rfl) (fun _ _ _ h => h) (by rw [← HCK.out]; exact yields_load_blk (by rfl) 23 (.tmp 3) rfl w.heap.size rfl 23 (k.map u8v) (fun w' hb => H5.out.2.1.below hb H5.out.2.1.lt) 32 5 Try.underlying23 (cells32 _ HK.out)) (by assumption) ?_
          (try simp only [Act.put, List.setIfInBounds_toArray, List.set_cons_zero, List.set_cons_succ])
          refine take_first (v := ?_) 4 rfl (by kernel_rfl) (by kernel_rfl) (by kernel_rfl) (fun _ _ _ h => h) (Or.inl ⟨by rfl, ?_⟩) (by assumption) ?_
          rotate_left
          · (intro w hSw; (try dsimp only at hSw); go_simp; try with_reducible rfl)
          (try simp only [Act.put, List.setIfInBounds_toArray, List.set_cons_zero, List.set_cons_succ])
          refine step_one 2 rfl (by kernel_rfl) (fun K hK => ?_)
          go_simp
          refine (HSX.out _ ((HR5.out.below hHeld).mono hHeld.size)).mono ?_
          rintro e wa ⟨rfl, hb⟩
          go_wp2_with fail
          refine hK.out _ _ (hHeld.trans (hb.mono hHeld.size)) (fun hHeld => ?_)
          clear hK K hb
          (try simp only [Act.put, List.setIfInBounds_toArray, List.set_cons_zero, List.set_cons_succ])
          refine step_one 5 rfl (by kernel_rfl) (fun K hK => ?_)
          go_simp
          refine (HSK.out _ ((HR5.out.below hHeld).mono hHeld.size)).mono ?_
          rintro e wb ⟨rfl, hb⟩
          go_wp2_with fail
          refine hK.out _ _ (hHeld.trans (hb.mono hHeld.size)) (fun hHeld => ?_)
          clear hK K hb
          (try simp only [Act.put, List.setIfInBounds_toArray, List.set_cons_zero, List.set_cons_succ])
          refine take_first (v := ?_) 6 rfl (by kernel_rfl) (by kernel_rfl) (by kernel_rfl) (fun _ _ _ h => h) (Or.inl ⟨by rfl, ?_⟩) (by assumption) ?_
          rotate_left
          · (intro w hSw; (try dsimp only at hSw); go_simp; try with_reducible rfl)
          (try simp only [Act.put, List.setIfInBounds_toArray, List.set_cons_zero, List.set_cons_succ])
          refine take_first (v := ?_) 7 rfl (by kernel_rfl) (by kernel_rfl) (by kernel_rfl) (fun _ _ _ h => h) (Or.inl ⟨by rfl, ?_⟩) (by assumption) ?_
          rotate_left
          · (intro w hSw; (try dsimp only at hSw); go_simp; try with_reducible rfl)
          (try simp only [Act.put, List.setIfInBounds_toArray, List.set_cons_zero, List.set_cons_succ])
          refine step_one 8 rfl (by kernel_rfl) (fun K hK => ?_)
          go_simp
          refine (HBG.out _).mono ?_
          rintro e wc ⟨rfl, hb⟩
          go_wp2_with fail
          refine hK.out _ _ (hHeld.trans (hb.mono hHeld.size)) (fun hHeld => ?_)
          clear hK K hb
          (try simp only [Act.put, List.setIfInBounds_toArray, List.set_cons_zero, List.set_cons_succ])
          refine take_first (v := ?_) 9 rfl (by kernel_rfl) (by kernel_rfl) (by kernel_rfl) (fun _ _ _ h => h) (Or.inl ⟨by rfl, ?_⟩) (by assumption) ?_
          rotate_left
          · (intro w hSw; (try dsimp only at hSw); go_simp; try with_reducible rfl)
          (try simp only [Act.put, List.setIfInBounds_toArray, List.set_cons_zero, List.set_cons_succ])
          refine take_first (v := ?_) 10 rfl (by kernel_rfl) (by kernel_rfl) (by kernel_rfl) (fun _ _ _ h => h) (Or.inl ⟨by rfl, ?_⟩) (by assumption) ?_
          rotate_left
          · (intro w hSw; (try dsimp only at hSw); go_simp; try with_reducible rfl)
          (try simp only [Act.put, List.setIfInBounds_toArray, List.set_cons_zero, List.set_cons_succ])
          refine wpAnyH_done (by kernel_rfl) ?_ _
          have HEND := Lib.hid (H5.out.2.2.trans (hHeld.mono H5.out.2.2.size))
          clear hHeld eqT
          go_wp2
          go_ret
          exact ⟨rfl, HEND.out⟩
end Go.Proofs.Ythjhohmmdnjpkaa
