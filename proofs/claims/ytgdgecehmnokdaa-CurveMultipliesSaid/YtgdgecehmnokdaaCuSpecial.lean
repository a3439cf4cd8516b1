/-
  special gives some key of 32 bytes.
-/
import Derived.Test.YtgdgecehmnokdaaCells32
import Derived.Test.YtgdgecehmnokdaaCuC
namespace Go.Proofs.Ytgdgecehmnokdaa
open Go.RowKit

def smallK : List UInt8 := [224, 235, 122, 124, 59, 65, 184, 174, 22, 86, 227, 250, 241, 159, 196, 106, 218, 9, 141, 235, 156, 50, 177, 253, 134, 98, 5, 22, 95, 73, 184, 0]
theorem small_built : Try.prog.built 23 [(0, .int .u8 224), (1, .int .u8 235), (2, .int .u8 122), (3, .int .u8 124), (4, .int .u8 59), (5, .int .u8 65), (6, .int .u8 184), (7, .int .u8 174), (8, .int .u8 22), (9, .int .u8 86), (10, .int .u8 227), (11, .int .u8 250), (12, .int .u8 241), (13, .int .u8 159), (14, .int .u8 196), (15, .int .u8 106), (16, .int .u8 218), (17, .int .u8 9), (18, .int .u8 141), (19, .int .u8 235), (20, .int .u8 156), (21, .int .u8 50), (22, .int .u8 177), (23, .int .u8 253), (24, .int .u8 134), (25, .int .u8 98), (26, .int .u8 5), (27, .int .u8 22), (28, .int .u8 95), (29, .int .u8 73), (30, .int .u8 184), (31, .int .u8 0)] = some (smallK.map u8v).toArray := by kernel_rfl

set_option maxRecDepth 100000 in
set_option maxHeartbeats 4000000 in
theorem cu_special_any (wh lo : Nat) (hwh : wh ≤ 255) (hlo : lo ≤ 255) (w : World) :
    Calls Try.prog 8 #[.int .u8 (wh : Int), .int .u8 (lo : Int)] w fun e w' => ∃ p : List UInt8, p.length = 32 ∧ e = .returned (.agg (p.map u8v).toArray) ∧ Below w.heap.size w w' := by
  have HM := Lib.hid (show Mem w [blkE (w.heap.size + 1) 23 ((zeroK).map u8v), blkE w.heap.size 23 (aeZ 32)] ((w.alloc (.cells #[.int .u8 0, .int .u8 0, .int .u8 0, .int .u8 0, .int .u8 0, .int .u8 0, .int .u8 0, .int .u8 0, .int .u8 0, .int .u8 0, .int .u8 0, .int .u8 0, .int .u8 0, .int .u8 0, .int .u8 0, .int .u8 0, .int .u8 0, .int .u8 0, .int .u8 0, .int .u8 0, .int .u8 0, .int .u8 0, .int .u8 0, .int .u8 0, .int .u8 0, .int .u8 0, .int .u8 0, .int .u8 0, .int .u8 0, .int .u8 0, .int .u8 0, .int .u8 0] 23)).alloc (.cells #[.int .u8 0, .int .u8 0, .int .u8 0, .int .u8 0, .int .u8 0, .int .u8 0, .int .u8 0, .int .u8 0, .int .u8 0, .int .u8 0, .int .u8 0, .int .u8 0, .int .u8 0, .int .u8 0, .int .u8 0, .int .u8 0, .int .u8 0, .int .u8 0, .int .u8 0, .int .u8 0, .int .u8 0, .int .u8 0, .int .u8 0, .int .u8 0, .int .u8 0, .int .u8 0, .int .u8 0, .int .u8 0, .int .u8 0, .int .u8 0, .int .u8 0, .int .u8 0] 23)) from ((Mem.nil w).alloc rfl 23 #[.int .u8 0, .int .u8 0, .int .u8 0, .int .u8 0, .int .u8 0, .int .u8 0, .int .u8 0, .int .u8 0, .int .u8 0, .int .u8 0, .int .u8 0, .int .u8 0, .int .u8 0, .int .u8 0, .int .u8 0, .int .u8 0, .int .u8 0, .int .u8 0, .int .u8 0, .int .u8 0, .int .u8 0, .int .u8 0, .int .u8 0, .int .u8 0, .int .u8 0, .int .u8 0, .int .u8 0, .int .u8 0, .int .u8 0, .int .u8 0, .int .u8 0, .int .u8 0] (aeZ 32) rfl).alloc (by simp) 23 #[.int .u8 0, .int .u8 0, .int .u8 0, .int .u8 0, .int .u8 0, .int .u8 0, .int .u8 0, .int .u8 0, .int .u8 0, .int .u8 0, .int .u8 0, .int .u8 0, .int .u8 0, .int .u8 0, .int .u8 0, .int .u8 0, .int .u8 0, .int .u8 0, .int .u8 0, .int .u8 0, .int .u8 0, .int .u8 0, .int .u8 0, .int .u8 0, .int .u8 0, .int .u8 0, .int .u8 0, .int .u8 0, .int .u8 0, .int .u8 0, .int .u8 0, .int .u8 0] (zeroK.map u8v) rfl)
  go_enter Try.func8, Try.ntmps8
  go_upto_region 2 with fail
  generalize ((w.alloc (.cells #[.int .u8 0, .int .u8 0, .int .u8 0, .int .u8 0, .int .u8 0, .int .u8 0, .int .u8 0, .int .u8 0, .int .u8 0, .int .u8 0, .int .u8 0, .int .u8 0, .int .u8 0, .int .u8 0, .int .u8 0, .int .u8 0, .int .u8 0, .int .u8 0, .int .u8 0, .int .u8 0, .int .u8 0, .int .u8 0, .int .u8 0, .int .u8 0, .int .u8 0, .int .u8 0, .int .u8 0, .int .u8 0, .int .u8 0, .int .u8 0, .int .u8 0, .int .u8 0] 23)).alloc (.cells #[.int .u8 0, .int .u8 0, .int .u8 0, .int .u8 0, .int .u8 0, .int .u8 0, .int .u8 0, .int .u8 0, .int .u8 0, .int .u8 0, .int .u8 0, .int .u8 0, .int .u8 0, .int .u8 0, .int .u8 0, .int .u8 0, .int .u8 0, .int .u8 0, .int .u8 0, .int .u8 0, .int .u8 0, .int .u8 0, .int .u8 0, .int .u8 0, .int .u8 0, .int .u8 0, .int .u8 0, .int .u8 0, .int .u8 0, .int .u8 0, .int .u8 0, .int .u8 0] 23)) = w1 at HM ⊢
  have hlt4 : wh % 4 < 4 := Nat.mod_lt _ (by omega)
  rcases (show wh % 4 = 0 ∨ wh % 4 = 1 ∨ wh % 4 = 2 ∨ wh % 4 = 3 by omega) with h4 | h4 | h4 | h4
  · have t0 : ((wh : Int) % 4 == 0) = true := by simp; omega
    have f0 := (HM.out.blk 0 rfl).byt 0 (by decide)
    have z0 := (HM.out.blk 0 rfl).frozen 0
    obtain ⟨x, hx⟩ : ∃ x : UInt8, ((x.toNat : Nat) : Int) = (lo : Int) % 10 := ⟨UInt8.ofNat (lo % 10), by rw [UInt8.toNat_ofNat', Nat.mod_eq_of_lt (by omega)]; omega⟩
    have hs : (zeroK.map u8v).set 0 (.int .u8 ((lo : Int) % 10)) = (zeroK.set 0 x).map u8v := by rw [← hx, List.map_set]; rfl
    have HN := Lib.hid (show Mem w [blkE (w.heap.size + 1) 23 ((zeroK.set 0 x).map u8v), blkE w.heap.size 23 (aeZ 32)] (w1.setCell ⟨(w.heap.size + 1), 0, none⟩ (.int .u8 ((lo : Int) % 10))) from by have h := HM.out.setCell 0 rfl 0 (.int .u8 ((lo : Int) % 10)); rw [hs] at h; exact h)
    clear hs h4 hx
    go_upto_region 14 with fail
    clear t0 f0 z0
    replace HM := HN
    clear HN
    generalize w1.setCell ⟨(w.heap.size + 1), 0, none⟩ (.int .u8 ((lo : Int) % 10)) = w2 at HM ⊢
    obtain ⟨pz, hpz⟩ : ∃ q, zeroK.set 0 x = q := ⟨_, rfl⟩
    have hpl : pz.length = 32 := by rw [← hpz]; rfl
    rw [hpz] at HM
    obtain ⟨cp, hcp⟩ : ∃ c, (pz.map u8v).toArray = c := ⟨_, rfl⟩
    have HP := Lib.hid (And.intro hpl hcp)
    clear hpz hpl hcp hlt4
    go_wp2_with (first | (refine wpList_load_blk rfl 23 (.tmp 5) rfl (w.heap.size + 1) rfl 23 (pz.map u8v) (HM.out.blk 0 rfl) 32 5 Try.underlying23 (cells32 pz HP.out.1) ?_; rw [HP.out.2]) | (refine wpList_store_blk rfl 23 (.tmp 4) (.tmp 32) rfl w.heap.size (pz.map u8v) rfl (by show Value.agg cp = _; rw [HP.out.2]) 23 (aeZ 32) (HM.out.blk 1 rfl) (cells32 pz HP.out.1) (by rw [List.length_map, HP.out.1]; rfl) (u8v_one _) ?_; intro w9 hb9 hg9))
    exact bodyPost_ret (results_blk rfl _ _ w.heap.size 23 (pz.map u8v) 32 5 rfl hb9 Try.underlying23 (cells32 pz HP.out.1)) rfl ⟨pz, HP.out.1, rfl, (HM.out.put 1 rfl _ hg9 hb9).bel⟩
  · have t0 : ((wh : Int) % 4 == 0) = false := by simp; omega
    have t1 : ((wh : Int) % 4 == 1) = true := by simp; omega
    clear h4
    go_wp2_with fail
    go_loopw [18, 6] (fun i _ wr => ∃ j : Nat, j ≤ 32 ∧ i = .int .i64 (j : Int) ∧ ∃ p : List UInt8, p.length = 32 ∧ Mem w [blkE (w.heap.size + 1) 23 ((p).map u8v), blkE w.heap.size 23 (aeZ 32)] wr) (fun i _ _ => 32 - (intOf i).toNat)
    case atStart => exact ⟨0, by omega, rfl, zeroK, rfl, HM.out⟩
    case round =>
      clear HM
      obtain ⟨j, hj, rfl, p, hp, hM⟩ := hrel
      have HM := Lib.hid hM
      clear hM
      by_cases hlt : j < 32
      · have fx := (HM.out.blk 0 rfl).byt j (by omega)
        have zx := (HM.out.blk 0 rfl).frozen j
        have hs : (p.map u8v).set j (.int .u8 255) = (p.set j 255).map u8v := by rw [List.map_set]; rfl
        have HN := Lib.hid (show Mem w [blkE (w.heap.size + 1) 23 ((p.set j 255).map u8v), blkE w.heap.size 23 (aeZ 32)] (wr.setCell ⟨(w.heap.size + 1), j, none⟩ (.int .u8 255)) from by have h := HM.out.setCell 0 rfl j (.int .u8 255); rw [hs] at h; exact h)
        have HP := Lib.hid (show (p.set j 255).length = 32 by rw [List.length_set]; exact hp)
        clear hs hp HM
        go_wp2_with fail
        go_roundw
        case rel => exact ⟨j + 1, by omega, by go_num, _, HP.out, HN.out⟩
        case measure => simp [intOf]; omega
      · obtain rfl : j = 32 := by omega
        have f0 := (HM.out.blk 0 rfl).byt 0 (by omega)
        have z0 := (HM.out.blk 0 rfl).frozen 0
        obtain ⟨x, hx⟩ : ∃ x : UInt8, ((x.toNat : Nat) : Int) = 230 + (lo : Int) % 26 := ⟨UInt8.ofNat (230 + lo % 26), by rw [UInt8.toNat_ofNat', Nat.mod_eq_of_lt (by omega)]; omega⟩
        obtain ⟨y, hy⟩ : ∃ y : UInt8, IntKind.u8.wrap (127 + ((wh &&& 128 : Nat) : Int)) = (y.toNat : Int) := by
          generalize 127 + ((wh &&& 128 : Nat) : Int) = v
          refine ⟨UInt8.ofNat (v % 256).toNat, ?_⟩
          rw [IntKind.wrap_u8, UInt8.toNat_ofNat', Nat.mod_eq_of_lt (by omega)]; omega
        have hand : bits BinOp.and IntKind.u8 (wh : Int) 128 = ((wh &&& 128 : Nat) : Int) := by
          have h := u8_and_nat wh 128 (by omega) (by omega)
          rw [show ((128 : Nat) : Int) = 128 from rfl] at h
          exact h
        have hs1 : (p.map u8v).set 0 (.int .u8 (230 + (lo : Int) % 26)) = (p.set 0 x).map u8v := by rw [← hx, List.map_set]; rfl
        have hs2 : ((p.set 0 x).map u8v).set 31 (.int .u8 (y.toNat : Int)) = ((p.set 0 x).set 31 y).map u8v := by rw [List.map_set (f := u8v) (i := 31)]; rfl
        have H1 := (show Mem w [blkE (w.heap.size + 1) 23 ((p.set 0 x).map u8v), blkE w.heap.size 23 (aeZ 32)] (wr.setCell ⟨(w.heap.size + 1), 0, none⟩ (.int .u8 (230 + (lo : Int) % 26))) from by have h := HM.out.setCell 0 rfl 0 (.int .u8 (230 + (lo : Int) % 26)); rw [hs1] at h; exact h)
        have H2 := Lib.hid (show Mem w [blkE (w.heap.size + 1) 23 (((p.set 0 x).set 31 y).map u8v), blkE w.heap.size 23 (aeZ 32)] ((wr.setCell ⟨(w.heap.size + 1), 0, none⟩ (.int .u8 (230 + (lo : Int) % 26))).setCell ⟨(w.heap.size + 1), 31, none⟩ (.int .u8 (y.toNat : Int))) from by have h := H1.setCell 0 rfl 31 (.int .u8 (y.toNat : Int)); rw [hs2] at h; exact h)
        have g0 := (H1.blk 0 rfl).byt 31 (by rw [List.length_set]; omega)
        have y0 := (H1.blk 0 rfl).frozen 31
        have HPL := Lib.hid hp
        clear hs1 hs2 H1 hp
        go_upto_region 14 with fail
        clear f0 z0 g0 y0 hy hand hx t0 t1
        replace HM := H2
        clear H2
        generalize (wr.setCell ⟨(w.heap.size + 1), 0, none⟩ (.int .u8 (230 + (lo : Int) % 26))).setCell ⟨(w.heap.size + 1), 31, none⟩ (.int .u8 (y.toNat : Int)) = w2 at HM ⊢
        obtain ⟨pz, hpz⟩ : ∃ q, (p.set 0 x).set 31 y = q := ⟨_, rfl⟩
        have hpl : pz.length = 32 := by rw [← hpz]; rw [List.length_set, List.length_set]; exact HPL.out
        rw [hpz] at HM
        obtain ⟨cp, hcp⟩ : ∃ c, (pz.map u8v).toArray = c := ⟨_, rfl⟩
        have HP := Lib.hid (And.intro hpl hcp)
        clear hpz hpl hcp hlt4
        go_wp2_with (first | (refine wpList_load_blk rfl 23 (.tmp 5) rfl (w.heap.size + 1) rfl 23 (pz.map u8v) (HM.out.blk 0 rfl) 32 5 Try.underlying23 (cells32 pz HP.out.1) ?_; rw [HP.out.2]) | (refine wpList_store_blk rfl 23 (.tmp 4) (.tmp 32) rfl w.heap.size (pz.map u8v) rfl (by show Value.agg cp = _; rw [HP.out.2]) 23 (aeZ 32) (HM.out.blk 1 rfl) (cells32 pz HP.out.1) (by rw [List.length_map, HP.out.1]; rfl) (u8v_one _) ?_; intro w9 hb9 hg9))
        exact bodyPost_ret (results_blk rfl _ _ w.heap.size 23 (pz.map u8v) 32 5 rfl hb9 Try.underlying23 (cells32 pz HP.out.1)) rfl ⟨pz, HP.out.1, rfl, (HM.out.put 1 rfl _ hg9 hb9).bel⟩
  · have t0 : ((wh : Int) % 4 == 0) = false := by simp; omega
    have t1 : ((wh : Int) % 4 == 1) = false := by simp; omega
    have t2 : ((wh : Int) % 4 == 2) = true := by simp; omega
    clear h4
    go_wp2_with fail
    go_loopw [18, 6] (fun i _ wr => ∃ j : Nat, j ≤ 32 ∧ i = .int .i64 (j : Int) ∧ ∃ p : List UInt8, p.length = 32 ∧ Mem w [blkE (w.heap.size + 1) 23 ((p).map u8v), blkE w.heap.size 23 (aeZ 32)] wr) (fun i _ _ => 32 - (intOf i).toNat)
    case atStart => exact ⟨0, by omega, rfl, zeroK, rfl, HM.out⟩
    case round =>
      clear HM
      obtain ⟨j, hj, rfl, p, hp, hM⟩ := hrel
      have HM := Lib.hid hM
      clear hM
      by_cases hlt : j < 32
      · have fx := (HM.out.blk 0 rfl).byt j (by omega)
        have zx := (HM.out.blk 0 rfl).frozen j
        have hs : (p.map u8v).set j (.int .u8 255) = (p.set j 255).map u8v := by rw [List.map_set]; rfl
        have HN := Lib.hid (show Mem w [blkE (w.heap.size + 1) 23 ((p.set j 255).map u8v), blkE w.heap.size 23 (aeZ 32)] (wr.setCell ⟨(w.heap.size + 1), j, none⟩ (.int .u8 255)) from by have h := HM.out.setCell 0 rfl j (.int .u8 255); rw [hs] at h; exact h)
        have HP := Lib.hid (show (p.set j 255).length = 32 by rw [List.length_set]; exact hp)
        clear hs hp HM
        go_wp2_with fail
        go_roundw
        case rel => exact ⟨j + 1, by omega, by go_num, _, HP.out, HN.out⟩
        case measure => simp [intOf]; omega
      · obtain rfl : j = 32 := by omega
        have f0 := (HM.out.blk 0 rfl).byt 0 (by omega)
        have z0 := (HM.out.blk 0 rfl).frozen 0
        obtain ⟨x, hx⟩ : ∃ x : UInt8, ((x.toNat : Nat) : Int) = 230 + (lo : Int) % 26 := ⟨UInt8.ofNat (230 + lo % 26), by rw [UInt8.toNat_ofNat', Nat.mod_eq_of_lt (by omega)]; omega⟩
        obtain ⟨y, hy⟩ : ∃ y : UInt8, IntKind.u8.wrap (127 + ((wh &&& 128 : Nat) : Int)) = (y.toNat : Int) := by
          generalize 127 + ((wh &&& 128 : Nat) : Int) = v
          refine ⟨UInt8.ofNat (v % 256).toNat, ?_⟩
          rw [IntKind.wrap_u8, UInt8.toNat_ofNat', Nat.mod_eq_of_lt (by omega)]; omega
        have hand : bits BinOp.and IntKind.u8 (wh : Int) 128 = ((wh &&& 128 : Nat) : Int) := by
          have h := u8_and_nat wh 128 (by omega) (by omega)
          rw [show ((128 : Nat) : Int) = 128 from rfl] at h
          exact h
        have hs1 : (p.map u8v).set 0 (.int .u8 (230 + (lo : Int) % 26)) = (p.set 0 x).map u8v := by rw [← hx, List.map_set]; rfl
        have hs2 : ((p.set 0 x).map u8v).set 31 (.int .u8 (y.toNat : Int)) = ((p.set 0 x).set 31 y).map u8v := by rw [List.map_set (f := u8v) (i := 31)]; rfl
        have H1 := (show Mem w [blkE (w.heap.size + 1) 23 ((p.set 0 x).map u8v), blkE w.heap.size 23 (aeZ 32)] (wr.setCell ⟨(w.heap.size + 1), 0, none⟩ (.int .u8 (230 + (lo : Int) % 26))) from by have h := HM.out.setCell 0 rfl 0 (.int .u8 (230 + (lo : Int) % 26)); rw [hs1] at h; exact h)
        have H2 := Lib.hid (show Mem w [blkE (w.heap.size + 1) 23 (((p.set 0 x).set 31 y).map u8v), blkE w.heap.size 23 (aeZ 32)] ((wr.setCell ⟨(w.heap.size + 1), 0, none⟩ (.int .u8 (230 + (lo : Int) % 26))).setCell ⟨(w.heap.size + 1), 31, none⟩ (.int .u8 (y.toNat : Int))) from by have h := H1.setCell 0 rfl 31 (.int .u8 (y.toNat : Int)); rw [hs2] at h; exact h)
        have g0 := (H1.blk 0 rfl).byt 31 (by rw [List.length_set]; omega)
        have y0 := (H1.blk 0 rfl).frozen 31
        have HPL := Lib.hid hp
        clear hs1 hs2 H1 hp
        go_upto_region 14 with fail
        clear f0 z0 g0 y0 hy hand hx t0 t1 t2
        replace HM := H2
        clear H2
        generalize (wr.setCell ⟨(w.heap.size + 1), 0, none⟩ (.int .u8 (230 + (lo : Int) % 26))).setCell ⟨(w.heap.size + 1), 31, none⟩ (.int .u8 (y.toNat : Int)) = w2 at HM ⊢
        obtain ⟨pz, hpz⟩ : ∃ q, (p.set 0 x).set 31 y = q := ⟨_, rfl⟩
        have hpl : pz.length = 32 := by rw [← hpz]; rw [List.length_set, List.length_set]; exact HPL.out
        rw [hpz] at HM
        obtain ⟨cp, hcp⟩ : ∃ c, (pz.map u8v).toArray = c := ⟨_, rfl⟩
        have HP := Lib.hid (And.intro hpl hcp)
        clear hpz hpl hcp hlt4
        go_wp2_with (first | (refine wpList_load_blk rfl 23 (.tmp 5) rfl (w.heap.size + 1) rfl 23 (pz.map u8v) (HM.out.blk 0 rfl) 32 5 Try.underlying23 (cells32 pz HP.out.1) ?_; rw [HP.out.2]) | (refine wpList_store_blk rfl 23 (.tmp 4) (.tmp 32) rfl w.heap.size (pz.map u8v) rfl (by show Value.agg cp = _; rw [HP.out.2]) 23 (aeZ 32) (HM.out.blk 1 rfl) (cells32 pz HP.out.1) (by rw [List.length_map, HP.out.1]; rfl) (u8v_one _) ?_; intro w9 hb9 hg9))
        exact bodyPost_ret (results_blk rfl _ _ w.heap.size 23 (pz.map u8v) 32 5 rfl hb9 Try.underlying23 (cells32 pz HP.out.1)) rfl ⟨pz, HP.out.1, rfl, (HM.out.put 1 rfl _ hg9 hb9).bel⟩
  · have t0 : ((wh : Int) % 4 == 0) = false := by simp; omega
    have t1 : ((wh : Int) % 4 == 1) = false := by simp; omega
    have t2 : ((wh : Int) % 4 == 2) = false := by simp; omega
    have bs := small_built
    obtain ⟨cs, hcs⟩ : ∃ c, (smallK.map u8v).toArray = c := ⟨_, rfl⟩
    rw [hcs] at bs
    have HS := Lib.hid (And.intro bs hcs)
    clear bs hcs h4
    go_upto_region 14 with (first | (refine wpList_build_as rfl 23 [(0, .const (.int .u8 224)), (1, .const (.int .u8 235)), (2, .const (.int .u8 122)), (3, .const (.int .u8 124)), (4, .const (.int .u8 59)), (5, .const (.int .u8 65)), (6, .const (.int .u8 184)), (7, .const (.int .u8 174)), (8, .const (.int .u8 22)), (9, .const (.int .u8 86)), (10, .const (.int .u8 227)), (11, .const (.int .u8 250)), (12, .const (.int .u8 241)), (13, .const (.int .u8 159)), (14, .const (.int .u8 196)), (15, .const (.int .u8 106)), (16, .const (.int .u8 218)), (17, .const (.int .u8 9)), (18, .const (.int .u8 141)), (19, .const (.int .u8 235)), (20, .const (.int .u8 156)), (21, .const (.int .u8 50)), (22, .const (.int .u8 177)), (23, .const (.int .u8 253)), (24, .const (.int .u8 134)), (25, .const (.int .u8 98)), (26, .const (.int .u8 5)), (27, .const (.int .u8 22)), (28, .const (.int .u8 95)), (29, .const (.int .u8 73)), (30, .const (.int .u8 184)), (31, .const (.int .u8 0))] rfl cs HS.out.1 ?_; (try simp only [Act.put, List.setIfInBounds_toArray, List.set_cons_zero, List.set_cons_succ])) | (refine wpList_store_blk rfl 23 (.tmp 5) (.tmp 9) rfl (w.heap.size + 1) (smallK.map u8v) rfl (by show Value.agg cs = _; rw [HS.out.2]) 23 (zeroK.map u8v) (HM.out.blk 0 rfl) (cells32 smallK rfl) (by rfl) (u8v_one _) ?_; intro w2 hb9 hg9))
    (try simp only [Act.put])
    replace HM := Lib.hid (show Mem w [blkE (w.heap.size + 1) 23 ((smallK).map u8v), blkE w.heap.size 23 (aeZ 32)] w2 from HM.out.put 0 rfl _ hg9 hb9)
    clear hb9 hg9 t0 t1 t2 HS
    obtain ⟨pz, hpz⟩ : ∃ q, smallK = q := ⟨_, rfl⟩
    have hpl : pz.length = 32 := by rw [← hpz]; rfl
    rw [hpz] at HM
    obtain ⟨cp, hcp⟩ : ∃ c, (pz.map u8v).toArray = c := ⟨_, rfl⟩
    have HP := Lib.hid (And.intro hpl hcp)
    clear hpz hpl hcp hlt4
    go_wp2_with (first | (refine wpList_load_blk rfl 23 (.tmp 5) rfl (w.heap.size + 1) rfl 23 (pz.map u8v) (HM.out.blk 0 rfl) 32 5 Try.underlying23 (cells32 pz HP.out.1) ?_; rw [HP.out.2]) | (refine wpList_store_blk rfl 23 (.tmp 4) (.tmp 32) rfl w.heap.size (pz.map u8v) rfl (by show Value.agg cp = _; rw [HP.out.2]) 23 (aeZ 32) (HM.out.blk 1 rfl) (cells32 pz HP.out.1) (by rw [List.length_map, HP.out.1]; rfl) (u8v_one _) ?_; intro w9 hb9 hg9))
    exact bodyPost_ret (results_blk rfl _ _ w.heap.size 23 (pz.map u8v) 32 5 rfl hb9 Try.underlying23 (cells32 pz HP.out.1)) rfl ⟨pz, HP.out.1, rfl, (HM.out.put 1 rfl _ hg9 hb9).bel⟩
end Go.Proofs.Ytgdgecehmnokdaa
