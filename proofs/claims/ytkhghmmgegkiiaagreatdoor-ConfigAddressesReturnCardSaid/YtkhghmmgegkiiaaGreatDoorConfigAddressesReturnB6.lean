/-
  The contract of config's parseSix. The contract of config's ParseAddr. The contract of config's ParsePrefix. The contract of config's ParseEndpoint. What is asked of config's functions that read and write addresses holds of the landed code. ConfigAddressesReturn returns true for every input, by what the landed functions give. No statement is proved here.
-/
import Derived.Deep.DeepCutAuto
import Derived.Test.YtkhghmmgegkiiaaGreatDoorConfigAddressesReturnB5
namespace Go.Proofs.YtkhghmmgegkiiaaGreatDoor
open Go.RowKit

theorem six_cells (ip : List UInt8) (h : ip.length = 16) (p : Nat) (hp : p + 1 < 16) (x y : UInt8) : (AddrM.mk true ip).cells.take (1 + p) ++ [x, y].map u8v ++ (AddrM.mk true ip).cells.drop (1 + p + ([x, y].map u8v).length) = (AddrM.mk true ((ip.set p x).set (p + 1) y)).cells := by
  have e : (ip.set p x).set (p + 1) y = ip.take p ++ [x, y] ++ ip.drop (p + 2) := by
    have h1 : (ip.take p).length = p := by rw [List.length_take]; omega
    have e0 : ip.set p x = ip.take p ++ x :: ip.drop (p + 1) := by rw [List.set_eq_take_append_cons_drop, if_pos (by omega)]
    rw [e0, List.set_append_right _ _ (by omega), h1, show p + 1 - p = 1 from by omega, List.set_cons_succ, List.drop_eq_getElem_cons (show p + 1 < ip.length by omega), List.set_cons_zero]
    simp
  rw [e]
  simp only [AddrM.cells, List.map_append, List.map_take, List.map_drop, List.length_map, List.length_cons, List.length_nil, List.append_assoc]
  rw [Nat.add_comm 1 p, List.take_succ_cons, show p + 1 + (0 + 1 + 1) = p + 2 + 1 from by omega, List.drop_succ_cons]
  simp
set_option maxRecDepth 100000 in
theorem array16_from (g p : Nat) (hp : p ≤ 15) (w : World) :
    (Instr.sliceAt 23 (.pointer (some ⟨g, 1, none⟩)) (some (.int .i64 (p : Int))) none none).run Tryz.prog w = .ok (.slice (some ⟨g, 1 + p, none⟩) (16 - p) (16 - p)) w := by
  have hs : (sizeOf 5).run Tryz.prog w = .ok 1 w := by
    obtain ⟨i0, hi, hz0, hz1, hz2⟩ := info_parts Tryz.info5
    simp [sizeOf, typeInfo, hi, hz1]
  have hl : Tryz.prog.arrayLen 23 = 16 := by kernel_rfl
  have he : Tryz.prog.elem 23 = 5 := by kernel_rfl
  rw [run_sliceAt_array_l (P := Tryz.prog) w 23 ⟨g, 1, none⟩ (by rw [hl, he]; exact Tryz.underlying23) .i64 (p : Int) (by omega) (by rw [hl]; omega), hl, he, hs]
  simp only [Result.andThen, slicedAt, Int.toNat_natCast, Go.WideShapes.add_plain, Nat.mul_one]
  rw [if_neg (by omega)]
set_option maxRecDepth 100000 in
set_option maxHeartbeats 8000000 in
theorem parseSix_any (l : List UInt8) (hl : l.length ≤ 100000) (R : AddrM × Nat) (hR : R = if (partsN 58 8 l).length = 8 then sixP (partsN 58 8 l) else (addr0, 5)) (w : World) (hlv : LvCf w) :
    Calls Tryz.prog 53 #[.string ⟨l.toArray⟩] w fun e w' => e = .returned (.tuple #[.agg R.1.cells.toArray, .int .i64 (R.2 : Int)]) ∧ Below w.heap.size w w' := by
  have HLV := Lib.hid hlv
  have HSN := Lib.hid (fun W h => splitN_c l 58 8 (by omega) (by omega) (by omega) W h)
  have hpl := parts_part 58 8 l
  have hps := parts_size 58 8 (by omega) l
  generalize partsN 58 8 l = ls at HSN hpl hps hR
  have HLEN := Lib.hid (show ∀ s ∈ ls, s.length ≤ 100000 from fun s hs => Nat.le_trans (hpl s hs) hl)
  have HR := Lib.hid hR
  obtain ⟨S, hS⟩ : ∃ S : ByteArray, ⟨l.toArray⟩ = S := ⟨_, rfl⟩
  rw [hS] at HSN ⊢
  have HU0 := Lib.hid (show (Tryz.prog.info? 25).map (·.size) = some addr0.cells.length from by kernel_rfl)
  have HM := Lib.hid (show Mem w [blkE w.heap.size 25 addr0.cells] (w.alloc (.cells #[.bool false, .int .u8 0, .int .u8 0, .int .u8 0, .int .u8 0, .int .u8 0, .int .u8 0, .int .u8 0, .int .u8 0, .int .u8 0, .int .u8 0, .int .u8 0, .int .u8 0, .int .u8 0, .int .u8 0, .int .u8 0, .int .u8 0] 25)) from (Mem.nil w).alloc rfl 25 #[.bool false, .int .u8 0, .int .u8 0, .int .u8 0, .int .u8 0, .int .u8 0, .int .u8 0, .int .u8 0, .int .u8 0, .int .u8 0, .int .u8 0, .int .u8 0, .int .u8 0, .int .u8 0, .int .u8 0, .int .u8 0, .int .u8 0] addr0.cells rfl)
  clear hlv hpl hR hS hl
  go_enter Tryz.func53, Tryz.ntmps53
  go_upto_region 1 with fail
  generalize w.alloc (.cells #[.bool false, .int .u8 0, .int .u8 0, .int .u8 0, .int .u8 0, .int .u8 0, .int .u8 0, .int .u8 0, .int .u8 0, .int .u8 0, .int .u8 0, .int .u8 0, .int .u8 0, .int .u8 0, .int .u8 0, .int .u8 0, .int .u8 0] 25) = w1 at HM ⊢
  go_wp2_with fail
  refine (HSN.out _ (HLV.out.below HM.out.bel)).mono ?_
  rintro e w2 ⟨g, c, rfl, hc1, hc2, hat, hg, hb⟩
  replace HM := Lib.hid (HM.out.below hb)
  have HAT := Lib.hid hat
  have HG := Lib.hid hg
  clear hat hg hb HSN
  obtain ⟨n, hn⟩ : ∃ n, ls.length = n := ⟨_, rfl⟩
  rw [hn] at HR hps hc1 ⊢
  by_cases h4 : n = 8
  rotate_left
  · replace HR := Lib.hid (HR.out.trans (if_neg h4))
    have hne : ¬ (n : Int) = 8 := by omega
    clear hn
    go_wp2_with (first | (refine wpList_build_as rfl 25 [] rfl #[.bool false, .int .u8 0, .int .u8 0, .int .u8 0, .int .u8 0, .int .u8 0, .int .u8 0, .int .u8 0, .int .u8 0, .int .u8 0, .int .u8 0, .int .u8 0, .int .u8 0, .int .u8 0, .int .u8 0, .int .u8 0, .int .u8 0] ?_ ?_; kernel_rfl) | (refine wpList_store_blk rfl 25 (.tmp 2) (.tmp 15) rfl w.heap.size addr0.cells rfl (by rfl) 25 addr0.cells (HM.out.blk 0 rfl) HU0.out rfl (AddrM.one _) ?_; intro w9 hb9 hg9))
    exact bodyPost_ret (results_obj_tmp rfl _ _ w.heap.size 25 addr0.cells _ rfl hb9 Tryz.underlying25 rfl HU0.out) rfl ⟨by rw [HR.out]; rfl, (HM.out.put 0 rfl _ hg9 hb9).bel⟩
  subst h4
  replace HR := Lib.hid (show R = if ls.all hxsOk = true then (⟨true, ls.flatMap fun s => [UInt8.ofNat (hexN s / 256), UInt8.ofNat (hexN s % 256)]⟩, 0) else (addr0, 5) from HR.out.trans (if_pos rfl))
  have HL := Lib.hid hn
  clear hn hps hc1
  have hbt : Tryz.prog.built 25 [(0, .bool true)] = some #[.bool true, .int .u8 0, .int .u8 0, .int .u8 0, .int .u8 0, .int .u8 0, .int .u8 0, .int .u8 0, .int .u8 0, .int .u8 0, .int .u8 0, .int .u8 0, .int .u8 0, .int .u8 0, .int .u8 0, .int .u8 0, .int .u8 0] := by kernel_rfl
  have HBT := Lib.hid hbt
  have HMZ := Lib.hid (show Mem w [blkE w2.heap.size 25 (AddrM.mk false (List.replicate 16 0)).cells, blkE w.heap.size 25 addr0.cells] (w2.alloc (.cells #[.bool false, .int .u8 0, .int .u8 0, .int .u8 0, .int .u8 0, .int .u8 0, .int .u8 0, .int .u8 0, .int .u8 0, .int .u8 0, .int .u8 0, .int .u8 0, .int .u8 0, .int .u8 0, .int .u8 0, .int .u8 0, .int .u8 0] 25)) from HM.out.alloc rfl 25 #[.bool false, .int .u8 0, .int .u8 0, .int .u8 0, .int .u8 0, .int .u8 0, .int .u8 0, .int .u8 0, .int .u8 0, .int .u8 0, .int .u8 0, .int .u8 0, .int .u8 0, .int .u8 0, .int .u8 0, .int .u8 0, .int .u8 0] (AddrM.mk false (List.replicate 16 0)).cells rfl)
  have hb3 : Below w2.heap.size w2 (w2.alloc (.cells #[.bool false, .int .u8 0, .int .u8 0, .int .u8 0, .int .u8 0, .int .u8 0, .int .u8 0, .int .u8 0, .int .u8 0, .int .u8 0, .int .u8 0, .int .u8 0, .int .u8 0, .int .u8 0, .int .u8 0, .int .u8 0, .int .u8 0] 25)) := (Below.refl _ _).alloc (Nat.le_refl _) _
  have HB3 := Lib.hid hb3
  clear hbt hb3
  go_upto_region 5 with (first | (refine wpList_build_as rfl 25 [(0, .const (.bool true))] rfl #[.bool true, .int .u8 0, .int .u8 0, .int .u8 0, .int .u8 0, .int .u8 0, .int .u8 0, .int .u8 0, .int .u8 0, .int .u8 0, .int .u8 0, .int .u8 0, .int .u8 0, .int .u8 0, .int .u8 0, .int .u8 0, .int .u8 0] ?_ ?_; exact HBT.out) | (refine wpList_store_blk rfl 25 (.tmp 5) (.tmp 16) rfl w2.heap.size (AddrM.mk true (sixIp ls 0)).cells rfl (by rfl) 25 (AddrM.mk false (List.replicate 16 0)).cells (HMZ.out.blk 0 rfl) (by kernel_rfl) rfl (AddrM.one _) ?_; intro w3 hb31 hg31))
  (try simp only [Act.put])
  have hm3 : Mem w [blkE w2.heap.size 25 (AddrM.mk true (sixIp ls 0)).cells, blkE w.heap.size 25 addr0.cells] w3 := HMZ.out.put 0 rfl _ hg31 hb31
  have hb3 : Below w2.heap.size w2 w3 := HB3.out.grown hg31 HB3.out.size (by intro q hq; injection hq with hq; omega)
  clear hb31 hg31 HB3 HMZ HBT
  replace HM := Lib.hid hm3
  have HB := Lib.hid hb3
  clear hm3 hb3
  go_wp2_with fail
  go_loopw [19] (fun i wr => ∃ j : Nat, j ≤ 8 ∧ i = .int .i64 (j : Int) ∧ Hid ((ls.take j).all hxsOk = true) ∧ Mem w [blkE w2.heap.size 25 (AddrM.mk true (sixIp ls j)).cells, blkE w.heap.size 25 addr0.cells] wr ∧ Below w2.heap.size w2 wr) (fun i _ => 8 - (intOf i).toNat)
  case atStart => exact ⟨0, by omega, rfl, Lib.hid rfl, HM.out, HB.out⟩
  case round =>
    obtain ⟨j, hj, rfl, hall, hM, hB⟩ := hrel
    replace HM := Lib.hid hM
    replace HB := Lib.hid hB
    clear hM hB
    by_cases hlt : j < 8
    · have hjl : j < ls.length := by have := HL.out; omega
      obtain ⟨s, hs⟩ : ∃ z, ls.getD j [] = z := ⟨_, rfl⟩
      have hcell : wr.cell? ⟨g, j, none⟩ = some (.string ⟨s.toArray⟩) := by
        have h := HAT.out j (.string ⟨s.toArray⟩) (by rw [List.getElem?_map, List.getElem?_eq_getElem hjl, ← hs, List.getD_eq_getElem?_getD, List.getElem?_eq_getElem hjl]; rfl)
        rw [Nat.zero_add] at h
        exact (HB.out.cell (p := ⟨g, j, none⟩) HG.out).trans h
      have hsl : s.length ≤ 100000 := HLEN.out s (by rw [← hs, List.getD_eq_getElem?_getD, List.getElem?_eq_getElem hjl]; exact List.getElem_mem _)
      have HALL := Lib.hid (show (ls.take (j + 1)).all hxsOk = hxsOk s from by rw [all_take_ls hxsOk ls j hjl, hall.out, hs, Bool.true_and])
      have HNOT := Lib.hid (fun h : hxsOk s = false => all_not (p := hxsOk) hjl (by rw [hs]; exact h))
      have hnc := hexNumber_any s (by omega) wr
      have HNC := Lib.hid hnc
      have HSET := Lib.hid (show ((sixIp ls j).set (2 * j) (UInt8.ofNat (hexN s / 256))).set (2 * j + 1) (UInt8.ofNat (hexN s % 256)) = sixIp ls (j + 1) from by rw [← hs]; exact six_set ls j hjl (by omega))
      have hjj : (0 : Int) ≤ (j : Int) := by omega
      clear hs hnc
      go_wp2_with fail
      refine HNC.out.mono ?_
      rintro e w5 (⟨hok, ⟨A, k, rfl, hrd⟩, hb⟩ | ⟨hno, rfl, hb⟩)
      rotate_left
      · have HNO := Lib.hid (show ¬ ls.all hxsOk = true from by rw [HNOT.out hno]; decide)
        replace HM := Lib.hid (HM.out.below hb)
        clear hb hcell hno
        go_wp2_with (first | (refine wpList_build_as rfl 25 [] rfl #[.bool false, .int .u8 0, .int .u8 0, .int .u8 0, .int .u8 0, .int .u8 0, .int .u8 0, .int .u8 0, .int .u8 0, .int .u8 0, .int .u8 0, .int .u8 0, .int .u8 0, .int .u8 0, .int .u8 0, .int .u8 0, .int .u8 0] ?_ ?_; kernel_rfl) | (refine wpList_store_blk rfl 25 (.tmp 2) (.tmp 31) rfl w.heap.size addr0.cells rfl (by rfl) 25 addr0.cells (HM.out.blk 1 rfl) HU0.out rfl (AddrM.one _) ?_; intro w9 hb9 hg9))
        exact bodyPost_ret (results_obj_tmp rfl _ _ w.heap.size 25 addr0.cells _ rfl hb9 Tryz.underlying25 rfl HU0.out) rfl ⟨by rw [HR.out, if_neg HNO.out]; rfl, (HM.out.put 1 rfl _ hg9 hb9).bel⟩
      · have HOK := Lib.hid hok
        replace HM := Lib.hid (HM.out.below hb)
        replace HB := Lib.hid (HB.out.trans (hb.mono HB.out.size))
        have HRD := Lib.hid hrd
        obtain ⟨p, hp⟩ : ∃ p, 2 * j = p := ⟨_, rfl⟩
        have hw1 : IntKind.i64.wrap (2 * (j : Int)) = (p : Int) := by rw [IntWalk.i64_in _ (by omega)]; omega
        have hsa := array16_from w2.heap.size p (by omega)
        have HP := Lib.hid hp
        obtain ⟨ad, rfl⟩ : ∃ ad, A = some ad := by
          obtain ⟨b, o, h, _⟩ := hrd.2 (by decide)
          exact ⟨_, h⟩
        obtain ⟨x, hx⟩ : ∃ x, UInt8.ofNat (hexN s / 256) = x := ⟨_, rfl⟩
        obtain ⟨y, hy⟩ : ∃ y, UInt8.ofNat (hexN s % 256) = y := ⟨_, rfl⟩
        rw [hx, hy] at HRD HSET
        clear hb hcell hok hrd hx hy hp
        have hmin : ([x, y].map u8v).length = Nat.min 2 (16 - p) := (Nat.min_eq_left (show 2 ≤ 16 - p by have := HP.out; omega)).symm
        have hfit : 1 + p + ([x, y].map u8v).length ≤ (AddrM.mk true (sixIp ls j)).cells.length := by
          rw [AddrM.cells_length (show (AddrM.mk true (sixIp ls j)).ok from sixIp_length ls j (by omega) hj)]
          have := HP.out
          simp only [List.length_map, List.length_cons, List.length_nil]
          omega
        go_wp2_with (refine wpList_copy_bytes _ rfl (.tmp 35) (.tmp 36) 22 22 rfl 5 Tryz.underlying22 (by kernel_rfl) w2.heap.size (1 + p) (16 - p) (16 - p) ad 2 k rfl rfl (AddrM.mk true (sixIp ls j)).cells 25 (HM.out.blk 0 rfl) ([x, y].map u8v) hmin HRD.out.src hfit (u8v_one _) ?_; intro w6 hb6 hg6)
        have hm := HM.out.put 0 rfl _ hg6 hb6
        have hcs : (AddrM.mk true (sixIp ls j)).cells.take (1 + p) ++ [x, y].map u8v ++ (AddrM.mk true (sixIp ls j)).cells.drop (1 + p + ([x, y].map u8v).length) = (AddrM.mk true (sixIp ls (j + 1))).cells := by
          rw [← HSET.out]
          rw [HP.out]
          exact six_cells _ (sixIp_length ls j (by omega) hj) p (by have := HP.out; omega) x y
        rw [hcs] at hm
        replace HM := Lib.hid hm
        replace HB := Lib.hid (HB.out.grown hg6 HB.out.size (by intro q hq; injection hq with hq; omega))
        clear hm hcs hb6 hg6
        go_wp2
        exact ⟨⟨j + 1, by omega, by go_num, Lib.hid (HALL.out.trans HOK.out), HM.out, HB.out⟩, by simp [intOf]; omega⟩
    · obtain rfl : j = 8 := by omega
      have HALL := Lib.hid (show ls.all hxsOk = true from by have h := hall.out; rwa [List.take_of_length_le (by have := HL.out; omega)] at h)
      have HE := Lib.hid (show sixIp ls 8 = ls.flatMap fun s => [UInt8.ofNat (hexN s / 256), UInt8.ofNat (hexN s % 256)] from by rw [sixIp, List.take_of_length_le (by have := HL.out; omega)]; simp)
      have hok4 : (AddrM.mk true (sixIp ls 8)).ok := sixIp_length ls 8 (by have := HL.out; omega) (by omega)
      have HU1 := Lib.hid (addr_cellsOf _ hok4)
      have HCL := Lib.hid (show addr0.cells.length = (AddrM.mk true (sixIp ls 8)).cells.length from (AddrM.cells_length addr0_ok).trans (AddrM.cells_length hok4).symm)
      obtain ⟨cz, hcz⟩ : ∃ z, (AddrM.mk true (sixIp ls 8)).cells.toArray = z := ⟨_, rfl⟩
      have HCZ := Lib.hid hcz
      clear hcz
      go_wp2_with (first | (refine wpList_load_obj rfl 25 (.tmp 5) rfl w2.heap.size 0 rfl (AddrM.mk true (sixIp ls 8)).cells (HM.out.blk 0 rfl).all _ Tryz.underlying25 rfl HU1.out ?_; rw [HCZ.out]) | (refine wpList_store_blk rfl 25 (.tmp 2) (.tmp 39) rfl w.heap.size (AddrM.mk true (sixIp ls 8)).cells rfl (by show Value.agg cz = _; rw [HCZ.out]) 25 addr0.cells (HM.out.blk 1 rfl) HU1.out HCL.out (AddrM.one _) ?_; intro w9 hb9 hg9))
      exact bodyPost_ret (results_obj_tmp rfl _ _ w.heap.size 25 (AddrM.mk true (sixIp ls 8)).cells _ rfl hb9 Tryz.underlying25 rfl HU1.out) rfl ⟨by rw [HR.out, if_pos HALL.out, ← HE.out]; rfl, (HM.out.put 1 rfl _ hg9 hb9).bel⟩
end Go.Proofs.YtkhghmmgegkiiaaGreatDoor
namespace Go.Proofs.YtkhghmmgegkiiaaGreatDoor
open Go.RowKit

set_option maxRecDepth 100000 in
set_option maxHeartbeats 4000000 in
theorem parseAddr_any (l : List UInt8) (hl : l.length ≤ 100000) (w : World) (hlv : LvCf w) :
    Calls Tryz.prog 21 #[.string ⟨l.toArray⟩] w fun e w' => e = .returned (.tuple #[.agg (addrP l).1.cells.toArray, .int .i64 ((addrP l).2 : Int)]) ∧ Below w.heap.size w w' := by
  have HLV := Lib.hid hlv
  have HCC := Lib.hid (contains_c l 58)
  have HM := Lib.hid (show Mem w [blkE w.heap.size 25 addr0.cells] (w.alloc (.cells #[.bool false, .int .u8 0, .int .u8 0, .int .u8 0, .int .u8 0, .int .u8 0, .int .u8 0, .int .u8 0, .int .u8 0, .int .u8 0, .int .u8 0, .int .u8 0, .int .u8 0, .int .u8 0, .int .u8 0, .int .u8 0, .int .u8 0] 25)) from (Mem.nil w).alloc rfl 25 #[.bool false, .int .u8 0, .int .u8 0, .int .u8 0, .int .u8 0, .int .u8 0, .int .u8 0, .int .u8 0, .int .u8 0, .int .u8 0, .int .u8 0, .int .u8 0, .int .u8 0, .int .u8 0, .int .u8 0, .int .u8 0, .int .u8 0] addr0.cells rfl)
  obtain ⟨S, hS⟩ : ∃ S : ByteArray, ⟨l.toArray⟩ = S := ⟨_, rfl⟩
  rw [hS] at HCC ⊢
  clear hlv
  go_enter Tryz.func21, Tryz.ntmps21
  go_upto_region 1 with fail
  generalize w.alloc (.cells #[.bool false, .int .u8 0, .int .u8 0, .int .u8 0, .int .u8 0, .int .u8 0, .int .u8 0, .int .u8 0, .int .u8 0, .int .u8 0, .int .u8 0, .int .u8 0, .int .u8 0, .int .u8 0, .int .u8 0, .int .u8 0, .int .u8 0] 25) = w1 at HM ⊢
  go_wp2_with fail
  refine (HCC.out _).mono ?_
  rintro e w2 ⟨rfl, hb⟩
  replace HM := Lib.hid (show Mem w [blkE w.heap.size 25 addr0.cells] w2 from HM.out.below hb)
  clear hb HCC
  by_cases hc : (58 : UInt8) ∈ l
  · rw [decide_eq_true hc]
    have hr := parseSix_any l hl (addrP l) (addrP_six l hc)
    obtain ⟨r, hrr⟩ : ∃ z, addrP l = z := ⟨_, rfl⟩
    have hok := addrP_ok l
    rw [hrr] at hr hok
    obtain ⟨ra, re⟩ := r
    have HU1 := Lib.hid (addr_cellsOf ra hok)
    have HCL := Lib.hid (show addr0.cells.length = ra.cells.length from (AddrM.cells_length addr0_ok).trans (AddrM.cells_length hok).symm)
    obtain ⟨cr, hcr⟩ : ∃ z, ra.cells.toArray = z := ⟨_, rfl⟩
    dsimp only at hr
    rw [hcr, hS] at hr
    have HPR := Lib.hid hr
    have HCR := Lib.hid hcr
    have HRR := Lib.hid hrr
    clear hr hcr hrr hok hc hS
    go_wp2_with fail
    refine (HPR.out _ (HLV.out.below HM.out.bel)).mono ?_
    rintro e w5 ⟨rfl, hb⟩
    replace HM := Lib.hid (show Mem w [blkE w.heap.size 25 addr0.cells] w5 from HM.out.below hb)
    clear hb
    go_wp2_with (refine wpList_store_blk rfl 25 (.tmp 2) (.tmp 8) rfl w.heap.size ra.cells rfl (by show Value.agg cr = _; rw [HCR.out]) 25 addr0.cells (HM.out.blk 0 rfl) HU1.out HCL.out (AddrM.one _) ?_; intro w9 hb9 hg9)
    exact bodyPost_ret (results_obj_tmp rfl _ _ w.heap.size 25 ra.cells _ rfl hb9 Tryz.underlying25 rfl HU1.out) rfl ⟨by rw [HRR.out]; rfl, (HM.out.put 0 rfl _ hg9 hb9).bel⟩
  · rw [decide_eq_false hc]
    have hr := parseFour_any l hl (addrP l) (addrP_four l hc)
    obtain ⟨r, hrr⟩ : ∃ z, addrP l = z := ⟨_, rfl⟩
    have hok := addrP_ok l
    rw [hrr] at hr hok
    obtain ⟨ra, re⟩ := r
    have HU1 := Lib.hid (addr_cellsOf ra hok)
    have HCL := Lib.hid (show addr0.cells.length = ra.cells.length from (AddrM.cells_length addr0_ok).trans (AddrM.cells_length hok).symm)
    obtain ⟨cr, hcr⟩ : ∃ z, ra.cells.toArray = z := ⟨_, rfl⟩
    dsimp only at hr
    rw [hcr, hS] at hr
    have HPR := Lib.hid hr
    have HCR := Lib.hid hcr
    have HRR := Lib.hid hrr
    clear hr hcr hrr hok hc hS
    go_wp2_with fail
    refine (HPR.out _ (HLV.out.below HM.out.bel)).mono ?_
    rintro e w5 ⟨rfl, hb⟩
    replace HM := Lib.hid (show Mem w [blkE w.heap.size 25 addr0.cells] w5 from HM.out.below hb)
    clear hb
    go_wp2_with (refine wpList_store_blk rfl 25 (.tmp 2) (.tmp 12) rfl w.heap.size ra.cells rfl (by show Value.agg cr = _; rw [HCR.out]) 25 addr0.cells (HM.out.blk 0 rfl) HU1.out HCL.out (AddrM.one _) ?_; intro w9 hb9 hg9)
    exact bodyPost_ret (results_obj_tmp rfl _ _ w.heap.size 25 ra.cells _ rfl hb9 Tryz.underlying25 rfl HU1.out) rfl ⟨by rw [HRR.out]; rfl, (HM.out.put 0 rfl _ hg9 hb9).bel⟩
end Go.Proofs.YtkhghmmgegkiiaaGreatDoor
namespace Go.Proofs.YtkhghmmgegkiiaaGreatDoor
open Go.RowKit

set_option maxRecDepth 100000 in
set_option maxHeartbeats 8000000 in
theorem parsePref_any (l : List UInt8) (hl : l.length ≤ 100000) (w : World) (hlv : LvCf w) :
    Calls Tryz.prog 23 #[.string ⟨l.toArray⟩] w fun e w' => e = .returned (.tuple #[.agg (prefC (prefP l).1.1 ((prefP l).1.2 : Int)).toArray, .int .i64 ((prefP l).2 : Int)]) ∧ Below w.heap.size w w' := by
  have HLV := Lib.hid hlv
  have HV := Lib.hid (prefP_prog l)
  have HCU := Lib.hid (fun W h => cut_c l [47] (by omega) W h)
  have HU0 := Lib.hid (show (Tryz.prog.info? 29).map (·.size) = some (prefC addr0 0).length from by kernel_rfl)
  have hcl : (Lib.cut l [47]).1.length ≤ 100000 ∧ (Lib.cut l [47]).2.1.length ≤ 100000 := by
    rcases index_at 47 l with ⟨h1, _⟩ | ⟨a, r, rfl, h2, _⟩
    · rw [cut_none h1]; exact ⟨hl, by simp⟩
    · rw [cut_some h2]; simp only [List.length_append, List.length_cons] at hl; exact ⟨by show a.length ≤ _; omega, by show r.length ≤ _; omega⟩
  obtain ⟨⟨s0, s1, fd⟩, hct⟩ : ∃ z, Lib.cut l [47] = z := ⟨_, rfl⟩
  rw [hct] at HCU HV hcl
  dsimp only at HCU HV hcl
  have HM := Lib.hid (show Mem w [blkE w.heap.size 29 (prefC addr0 0)] (w.alloc (.cells #[.bool false, .int .u8 0, .int .u8 0, .int .u8 0, .int .u8 0, .int .u8 0, .int .u8 0, .int .u8 0, .int .u8 0, .int .u8 0, .int .u8 0, .int .u8 0, .int .u8 0, .int .u8 0, .int .u8 0, .int .u8 0, .int .u8 0, .int .i64 0] 29)) from (Mem.nil w).alloc rfl 29 #[.bool false, .int .u8 0, .int .u8 0, .int .u8 0, .int .u8 0, .int .u8 0, .int .u8 0, .int .u8 0, .int .u8 0, .int .u8 0, .int .u8 0, .int .u8 0, .int .u8 0, .int .u8 0, .int .u8 0, .int .u8 0, .int .u8 0, .int .i64 0] (prefC addr0 0) rfl)
  obtain ⟨S, hS⟩ : ∃ S : ByteArray, ⟨l.toArray⟩ = S := ⟨_, rfl⟩
  rw [hS] at HCU ⊢
  have HPA := Lib.hid (fun W h => parseAddr_any s0 hcl.1 W h)
  have HPN := Lib.hid (fun W h => number_any s1 (by omega) W h)
  have hn3 := numP_lt s1 10
  have hok := addrP_ok s0
  obtain ⟨r, hr⟩ : ∃ z, addrP s0 = z := ⟨_, rfl⟩
  rw [hr] at HPA HV hok
  obtain ⟨ra, re⟩ := r
  obtain ⟨nb, hnb⟩ : ∃ z, numP s1 10 = z := ⟨_, rfl⟩
  rw [hnb] at HPN HV hn3
  obtain ⟨q, okq⟩ := nb
  dsimp only at HPA HPN HV hok hn3
  obtain ⟨cr, hcr⟩ : ∃ z, ra.cells.toArray = z := ⟨_, rfl⟩
  have hbt := pref_built ra hok (q : Int)
  obtain ⟨cpx, hcpx⟩ : ∃ z, (prefC ra (q : Int)).toArray = z := ⟨_, rfl⟩
  rw [hcr, hcpx] at hbt
  rw [hcr] at HPA
  have HBT := Lib.hid hbt
  have HCR := Lib.hid hcr
  have HCP := Lib.hid hcpx
  have HU1 := Lib.hid (addr_cellsOf ra hok)
  have HUP := Lib.hid (pref_cellsOf ra hok (q : Int))
  have hva := valid_any ra (q : Int) hok
  rw [hcpx] at hva
  have HVA := Lib.hid hva
  have HZA := Lib.hid (show addr0.cells.length = ra.cells.length from (AddrM.cells_length addr0_ok).trans (AddrM.cells_length hok).symm)
  have HZP := Lib.hid (show (prefC addr0 0).length = (prefC ra (q : Int)).length from (prefC_length addr0 addr0_ok 0).trans (prefC_length ra hok _).symm)
  have hwq : IntKind.i64.wrap (q : Int) = (q : Int) := IntWalk.i64_in _ (by omega)
  clear hcr hcpx hbt hr hnb hva hcl hct hS hlv hl
  go_enter Tryz.func23, Tryz.ntmps23
  go_upto_region 1 with fail
  generalize w.alloc (.cells #[.bool false, .int .u8 0, .int .u8 0, .int .u8 0, .int .u8 0, .int .u8 0, .int .u8 0, .int .u8 0, .int .u8 0, .int .u8 0, .int .u8 0, .int .u8 0, .int .u8 0, .int .u8 0, .int .u8 0, .int .u8 0, .int .u8 0, .int .i64 0] 29) = w1 at HM ⊢
  go_wp2_with fail
  refine (HCU.out _ (HLV.out.below HM.out.bel)).mono ?_
  rintro e w2 ⟨rfl, hb⟩
  replace HM := Lib.hid (show Mem w [blkE w.heap.size 29 (prefC addr0 0)] w2 from HM.out.below hb)
  clear hb HCU
  go_wp2_with fail
  refine (HPA.out _ (HLV.out.below HM.out.bel)).mono ?_
  rintro e w3 ⟨rfl, hb⟩
  replace HM := Lib.hid (show Mem w [blkE w.heap.size 29 (prefC addr0 0)] w3 from HM.out.below hb)
  have HMZ := Lib.hid (show Mem w [blkE w3.heap.size 25 addr0.cells, blkE w.heap.size 29 (prefC addr0 0)] (w3.alloc (.cells #[.bool false, .int .u8 0, .int .u8 0, .int .u8 0, .int .u8 0, .int .u8 0, .int .u8 0, .int .u8 0, .int .u8 0, .int .u8 0, .int .u8 0, .int .u8 0, .int .u8 0, .int .u8 0, .int .u8 0, .int .u8 0, .int .u8 0] 25)) from HM.out.alloc rfl 25 #[.bool false, .int .u8 0, .int .u8 0, .int .u8 0, .int .u8 0, .int .u8 0, .int .u8 0, .int .u8 0, .int .u8 0, .int .u8 0, .int .u8 0, .int .u8 0, .int .u8 0, .int .u8 0, .int .u8 0, .int .u8 0, .int .u8 0] addr0.cells rfl)
  clear hb HM
  go_upto_region 3 with (refine wpList_store_blk rfl 25 (.tmp 7) (.tmp 21) rfl w3.heap.size ra.cells rfl (by show Value.agg cr = _; rw [HCR.out]) 25 addr0.cells (HMZ.out.blk 0 rfl) HU1.out HZA.out (AddrM.one _) ?_; intro w4 hb4 hg4)
  (try simp only [Act.put])
  have hm4 := HMZ.out.put 0 rfl _ hg4 hb4
  clear hb4 hg4 HMZ
  generalize w3.heap.size = gA at hm4 ⊢
  have HM := Lib.hid (show Mem w [blkE gA 25 ra.cells, blkE w.heap.size 29 (prefC addr0 0)] w4 from hm4)
  clear hm4
  go_wp2_with fail
  refine (HPN.out _ (HLV.out.below HM.out.bel)).mono ?_
  rintro e w5 ⟨rfl, hb⟩
  replace HM := Lib.hid (show Mem w [blkE gA 25 ra.cells, blkE w.heap.size 29 (prefC addr0 0)] w5 from HM.out.below hb)
  clear hb
  have HMZ := Lib.hid (show Mem w [blkE w5.heap.size 29 (prefC addr0 0), blkE gA 25 ra.cells, blkE w.heap.size 29 (prefC addr0 0)] (w5.alloc (.cells #[.bool false, .int .u8 0, .int .u8 0, .int .u8 0, .int .u8 0, .int .u8 0, .int .u8 0, .int .u8 0, .int .u8 0, .int .u8 0, .int .u8 0, .int .u8 0, .int .u8 0, .int .u8 0, .int .u8 0, .int .u8 0, .int .u8 0, .int .i64 0] 29)) from HM.out.alloc rfl 29 #[.bool false, .int .u8 0, .int .u8 0, .int .u8 0, .int .u8 0, .int .u8 0, .int .u8 0, .int .u8 0, .int .u8 0, .int .u8 0, .int .u8 0, .int .u8 0, .int .u8 0, .int .u8 0, .int .u8 0, .int .u8 0, .int .u8 0, .int .i64 0] (prefC addr0 0) rfl)
  go_upto_region 5 with (first | (refine wpList_load_obj rfl 25 (.tmp 7) rfl gA 0 rfl ra.cells (HM.out.blk 0 rfl).all _ Tryz.underlying25 rfl HU1.out ?_; rw [HCR.out]) | (refine wpList_build_as rfl 29 [(0, .tmp 28), (1, .tmp 29)] rfl cpx ?_ ?_; exact HBT.out) | (refine wpList_store_blk rfl 29 (.tmp 11) (.tmp 30) rfl w5.heap.size (prefC ra (q : Int)) rfl (by show Value.agg cpx = _; rw [HCP.out]) 29 (prefC addr0 0) (HMZ.out.blk 0 rfl) HUP.out HZP.out (prefC_one _ _) ?_; intro w6 hb6 hg6))
  (try simp only [Act.put])
  have hm6 := HMZ.out.put 0 rfl _ hg6 hb6
  clear hb6 hg6 HMZ HM
  generalize w5.heap.size = gP at hm6 ⊢
  have HM := Lib.hid (show Mem w [blkE gP 29 (prefC ra (q : Int)), blkE gA 25 ra.cells, blkE w.heap.size 29 (prefC addr0 0)] w6 from hm6)
  clear hm6
  by_cases he : re = 0
  case neg =>
    replace HV := Lib.hid (HV.out.trans (if_pos (.inl he)))
    have e1 : ((re : Int) != 0) = true := by rw [bne_iff_ne]; omega
    clear he
    go_wp2_with (first | (refine wpList_build_as rfl 29 [] rfl #[.bool false, .int .u8 0, .int .u8 0, .int .u8 0, .int .u8 0, .int .u8 0, .int .u8 0, .int .u8 0, .int .u8 0, .int .u8 0, .int .u8 0, .int .u8 0, .int .u8 0, .int .u8 0, .int .u8 0, .int .u8 0, .int .u8 0, .int .i64 0] ?_ ?_; kernel_rfl) | (refine wpList_store_blk rfl 29 (.tmp 2) (.tmp 42) rfl w.heap.size (prefC addr0 0) rfl (by rfl) 29 (prefC addr0 0) (HM.out.blk 2 rfl) HU0.out rfl (prefC_one addr0 0) ?_; intro w9 hb9 hg9))
    exact bodyPost_ret (results_obj_tmp rfl _ _ w.heap.size 29 (prefC addr0 0) _ rfl hb9 Tryz.underlying29 rfl HU0.out) rfl ⟨by rw [HV.out]; rfl, (HM.out.put 2 rfl _ hg9 hb9).bel⟩
  subst he
  cases okq
  case false =>
    replace HV := Lib.hid (HV.out.trans (if_pos (.inr (.inl rfl))))
    rw [show okN false = 5 from rfl]
    go_wp2_with (first | (refine wpList_build_as rfl 29 [] rfl #[.bool false, .int .u8 0, .int .u8 0, .int .u8 0, .int .u8 0, .int .u8 0, .int .u8 0, .int .u8 0, .int .u8 0, .int .u8 0, .int .u8 0, .int .u8 0, .int .u8 0, .int .u8 0, .int .u8 0, .int .u8 0, .int .u8 0, .int .i64 0] ?_ ?_; kernel_rfl) | (refine wpList_store_blk rfl 29 (.tmp 2) (.tmp 42) rfl w.heap.size (prefC addr0 0) rfl (by rfl) 29 (prefC addr0 0) (HM.out.blk 2 rfl) HU0.out rfl (prefC_one addr0 0) ?_; intro w9 hb9 hg9))
    exact bodyPost_ret (results_obj_tmp rfl _ _ w.heap.size 29 (prefC addr0 0) _ rfl hb9 Tryz.underlying29 rfl HU0.out) rfl ⟨by rw [HV.out]; rfl, (HM.out.put 2 rfl _ hg9 hb9).bel⟩
  rw [show okN true = 0 from rfl]
  go_wp2_with (refine wpList_load_obj_g (by rfl) 29 (.tmp 11) rfl gP 0 rfl (prefC ra (q : Int)) (HM.out.blk 0 rfl).all _ Tryz.underlying29 rfl HUP.out ?_)
  rw [HCP.out]
  refine (HVA.out _).mono ?_
  rintro e w7 ⟨rfl, hb⟩
  replace HM := Lib.hid (show Mem w [blkE gP 29 (prefC ra (q : Int)), blkE gA 25 ra.cells, blkE w.heap.size 29 (prefC addr0 0)] w7 from HM.out.below hb)
  clear hb
  cases hvv : validM ra (q : Int)
  case false =>
    replace HV := Lib.hid (HV.out.trans (if_pos (.inr (.inr hvv))))
    clear hvv
    go_wp2_with (first | (refine wpList_build_as rfl 29 [] rfl #[.bool false, .int .u8 0, .int .u8 0, .int .u8 0, .int .u8 0, .int .u8 0, .int .u8 0, .int .u8 0, .int .u8 0, .int .u8 0, .int .u8 0, .int .u8 0, .int .u8 0, .int .u8 0, .int .u8 0, .int .u8 0, .int .u8 0, .int .i64 0] ?_ ?_; kernel_rfl) | (refine wpList_store_blk rfl 29 (.tmp 2) (.tmp 42) rfl w.heap.size (prefC addr0 0) rfl (by rfl) 29 (prefC addr0 0) (HM.out.blk 2 rfl) HU0.out rfl (prefC_one addr0 0) ?_; intro w9 hb9 hg9))
    exact bodyPost_ret (results_obj_tmp rfl _ _ w.heap.size 29 (prefC addr0 0) _ rfl hb9 Tryz.underlying29 rfl HU0.out) rfl ⟨by rw [HV.out]; rfl, (HM.out.put 2 rfl _ hg9 hb9).bel⟩
  replace HV := Lib.hid (HV.out.trans (if_neg (by rw [hvv]; simp)))
  clear hvv
  go_wp2_with (first | (refine wpList_load_obj rfl 29 (.tmp 11) rfl gP 0 rfl (prefC ra (q : Int)) (HM.out.blk 0 rfl).all _ Tryz.underlying29 rfl HUP.out ?_; rw [HCP.out]) | (refine wpList_store_blk rfl 29 (.tmp 2) (.tmp 43) rfl w.heap.size (prefC ra (q : Int)) rfl (by show Value.agg cpx = _; rw [HCP.out]) 29 (prefC addr0 0) (HM.out.blk 2 rfl) HUP.out HZP.out (prefC_one _ _) ?_; intro w9 hb9 hg9))
  exact bodyPost_ret (results_obj_tmp rfl _ _ w.heap.size 29 (prefC ra (q : Int)) _ rfl hb9 Tryz.underlying29 rfl HUP.out) rfl ⟨by rw [HV.out]; rfl, (HM.out.put 2 rfl _ hg9 hb9).bel⟩
end Go.Proofs.YtkhghmmgegkiiaaGreatDoor
namespace Go.Proofs.YtkhghmmgegkiiaaGreatDoor
open Go.RowKit

theorem end_cells_is (a : AddrM) (q : Int) : (a.cells ++ [Value.int .i64 q]).toArray = (prefC a q).toArray := rfl
set_option maxRecDepth 100000 in
set_option maxHeartbeats 8000000 in
theorem parseEnd_any (l : List UInt8) (hl : l.length ≤ 100000) (w : World) (hlv : LvCf w) :
    Calls Tryz.prog 22 #[.string ⟨l.toArray⟩] w fun e w' => e = .returned (.tuple #[.agg (prefC (endP l).1.1 ((endP l).1.2 : Int)).toArray, .int .i64 ((endP l).2 : Int)]) ∧ Below w.heap.size w w' := by
  have HLV := Lib.hid hlv
  have HV := Lib.hid (endP_prog l)
  have HLI := Lib.hid (lastIndex_c l (by omega))
  have hlq := last_le l
  have HU0 := Lib.hid (show (Tryz.prog.info? 27).map (·.size) = some (prefC addr0 0).length from by kernel_rfl)
  have HM := Lib.hid (show Mem w [blkE w.heap.size 27 (prefC addr0 0)] (w.alloc (.cells #[.bool false, .int .u8 0, .int .u8 0, .int .u8 0, .int .u8 0, .int .u8 0, .int .u8 0, .int .u8 0, .int .u8 0, .int .u8 0, .int .u8 0, .int .u8 0, .int .u8 0, .int .u8 0, .int .u8 0, .int .u8 0, .int .u8 0, .int .i64 0] 27)) from (Mem.nil w).alloc rfl 27 #[.bool false, .int .u8 0, .int .u8 0, .int .u8 0, .int .u8 0, .int .u8 0, .int .u8 0, .int .u8 0, .int .u8 0, .int .u8 0, .int .u8 0, .int .u8 0, .int .u8 0, .int .u8 0, .int .u8 0, .int .u8 0, .int .u8 0, .int .i64 0] (prefC addr0 0) rfl)
  generalize lastC l = p at HLI hlq HV
  obtain ⟨S, hS⟩ : ∃ S : ByteArray, ⟨l.toArray⟩ = S := ⟨_, rfl⟩
  have hsz : S.size = l.length := by rw [← hS]; exact text_size l
  have HX1 := Lib.hid (show S.extract 0 (p - 1) = ⟨(l.take (p - 1)).toArray⟩ from by rw [← hS]; exact text_take l (p - 1))
  have HX2 := Lib.hid (show S.extract p l.length = ⟨(l.drop p).toArray⟩ from by rw [← hS]; exact text_drop l p _ rfl)
  rw [hS] at HLI ⊢
  clear hS hlv
  go_enter Tryz.func22, Tryz.ntmps22
  go_upto_region 1 with fail
  generalize w.alloc (.cells #[.bool false, .int .u8 0, .int .u8 0, .int .u8 0, .int .u8 0, .int .u8 0, .int .u8 0, .int .u8 0, .int .u8 0, .int .u8 0, .int .u8 0, .int .u8 0, .int .u8 0, .int .u8 0, .int .u8 0, .int .u8 0, .int .u8 0, .int .i64 0] 27) = w1 at HM ⊢
  go_wp2_with fail
  refine (HLI.out _).mono ?_
  rintro e w2 ⟨rfl, hb⟩
  replace HM := Lib.hid (show Mem w [blkE w.heap.size 27 (prefC addr0 0)] w2 from HM.out.below hb)
  clear hb HLI
  by_cases h0 : p = 0
  case pos =>
    subst h0
    replace HV := Lib.hid (HV.out.trans (if_pos rfl))
    go_wp2_with (first | (refine wpList_build_as rfl 27 [] rfl #[.bool false, .int .u8 0, .int .u8 0, .int .u8 0, .int .u8 0, .int .u8 0, .int .u8 0, .int .u8 0, .int .u8 0, .int .u8 0, .int .u8 0, .int .u8 0, .int .u8 0, .int .u8 0, .int .u8 0, .int .u8 0, .int .u8 0, .int .i64 0] ?_ ?_; kernel_rfl) | (refine wpList_store_blk rfl 27 (.tmp 2) (.tmp 15) rfl w.heap.size (prefC addr0 0) rfl (by rfl) 27 (prefC addr0 0) (HM.out.blk 0 rfl) HU0.out rfl (prefC_one addr0 0) ?_; intro w9 hb9 hg9))
    exact bodyPost_ret (results_obj_tmp rfl _ _ w.heap.size 27 (prefC addr0 0) _ rfl hb9 Tryz.underlying27 rfl HU0.out) rfl ⟨by rw [HV.out]; rfl, (HM.out.put 0 rfl _ hg9 hb9).bel⟩
  replace HV := Lib.hid (HV.out.trans (if_neg h0))
  obtain ⟨k, hk⟩ : ∃ k, p - 1 = k := ⟨_, rfl⟩
  have hki : (p : Int) - 1 = (k : Int) := by omega
  rw [hk] at HV HX1
  rw [hki]
  have k1 : (k : Int) ≤ (l.length : Int) := by omega
  have k2 : (0 : Int) ≤ (k : Int) := by omega
  have k3 : k ≤ l.length := by omega
  have k4 : (p : Int) ≤ (l.length : Int) := by omega
  have k5 : p ≤ l.length := by omega
  have hwp : IntKind.i64.wrap ((k : Int) + 1) = (p : Int) := by rw [IntWalk.i64_in _ (by omega)]; omega
  obtain ⟨h, hh⟩ : ∃ z, l.take k = z := ⟨_, rfl⟩
  have hhl : h.length ≤ 100000 := by rw [← hh, List.length_take]; omega
  obtain ⟨s1, hs1⟩ : ∃ z, l.drop p = z := ⟨_, rfl⟩
  have hs1l : s1.length ≤ 100000 := by rw [← hs1, List.length_drop]; omega
  rw [hh] at HV HX1
  rw [hs1] at HV HX2
  have hx1 := HX1.out
  have hx2 := HX2.out
  have HUW := Lib.hid (unwrap_any h (by omega))
  obtain ⟨inn, hin⟩ : ∃ z, innerB h = z := ⟨_, rfl⟩
  have hinl : inn.length ≤ 100000 := by
    rw [← hin, innerB]
    split
    · rw [List.length_take, List.length_drop]; omega
    · exact hhl
  replace HV := Lib.hid (show endP l = if (addrP inn).2 ≠ 0 ∨ (numP s1 10).2 = false ∨ (addrP inn).1.six ≠ brack h ∨ ¬(1 ≤ (numP s1 10).1 ∧ (numP s1 10).1 ≤ 65535) then ((addr0, 0), 5) else (((addrP inn).1, (numP s1 10).1), 0) from by rw [← hin]; exact HV.out)
  rw [hin] at HUW
  have HPA := Lib.hid (fun W h => parseAddr_any inn hinl W h)
  have HPN := Lib.hid (fun W h => number_any s1 (by omega) W h)
  have hn3 := numP_lt s1 10
  have hok := addrP_ok inn
  obtain ⟨r, hr⟩ : ∃ z, addrP inn = z := ⟨_, rfl⟩
  rw [hr] at HPA HV hok
  obtain ⟨ra, re⟩ := r
  obtain ⟨nb, hnb⟩ : ∃ z, numP s1 10 = z := ⟨_, rfl⟩
  rw [hnb] at HPN HV hn3
  obtain ⟨q, okq⟩ := nb
  obtain ⟨br, hbr⟩ : ∃ z, brack h = z := ⟨_, rfl⟩
  rw [hbr] at HUW HV
  dsimp only at HPA HPN HV hok hn3
  obtain ⟨cr, hcr⟩ : ∃ z, ra.cells.toArray = z := ⟨_, rfl⟩
  have hbt := end_built ra hok (q : Int)
  rw [end_cells_is] at hbt
  obtain ⟨cpx, hcpx⟩ : ∃ z, (prefC ra (q : Int)).toArray = z := ⟨_, rfl⟩
  rw [hcr, hcpx] at hbt
  rw [hcr] at HPA
  have HBT := Lib.hid hbt
  have HCR := Lib.hid hcr
  have HCP := Lib.hid hcpx
  have HU1 := Lib.hid (addr_cellsOf ra hok)
  have HUP := Lib.hid (end_cellsOf ra hok (q : Int))
  have HZA := Lib.hid (show addr0.cells.length = ra.cells.length from (AddrM.cells_length addr0_ok).trans (AddrM.cells_length hok).symm)
  have HZP := Lib.hid (show (prefC addr0 0).length = (prefC ra (q : Int)).length from (prefC_length addr0 addr0_ok 0).trans (prefC_length ra hok _).symm)
  have hwq : IntKind.i64.wrap (q : Int) = (q : Int) := IntWalk.i64_in _ (by omega)
  have HVP := Lib.hid (validPort_any (q : Int))
  clear hcr hcpx hbt hr hnb hin hinl hh hhl hs1 hs1l hbr hlq hl h0 hk hki
  go_wp2_with fail
  refine (HUW.out _).mono ?_
  rintro e w3 ⟨rfl, hb⟩
  replace HM := Lib.hid (show Mem w [blkE w.heap.size 27 (prefC addr0 0)] w3 from HM.out.below hb)
  clear hb HUW hx1
  go_wp2_with fail
  refine (HPA.out _ (HLV.out.below HM.out.bel)).mono ?_
  rintro e w4 ⟨rfl, hb⟩
  replace HM := Lib.hid (show Mem w [blkE w.heap.size 27 (prefC addr0 0)] w4 from HM.out.below hb)
  have HMZ := Lib.hid (show Mem w [blkE w4.heap.size 25 addr0.cells, blkE w.heap.size 27 (prefC addr0 0)] (w4.alloc (.cells #[.bool false, .int .u8 0, .int .u8 0, .int .u8 0, .int .u8 0, .int .u8 0, .int .u8 0, .int .u8 0, .int .u8 0, .int .u8 0, .int .u8 0, .int .u8 0, .int .u8 0, .int .u8 0, .int .u8 0, .int .u8 0, .int .u8 0] 25)) from HM.out.alloc rfl 25 #[.bool false, .int .u8 0, .int .u8 0, .int .u8 0, .int .u8 0, .int .u8 0, .int .u8 0, .int .u8 0, .int .u8 0, .int .u8 0, .int .u8 0, .int .u8 0, .int .u8 0, .int .u8 0, .int .u8 0, .int .u8 0, .int .u8 0] addr0.cells rfl)
  clear hb HM
  go_upto_region 6 with (refine wpList_store_blk rfl 25 (.tmp 7) (.tmp 26) rfl w4.heap.size ra.cells rfl (by show Value.agg cr = _; rw [HCR.out]) 25 addr0.cells (HMZ.out.blk 0 rfl) HU1.out HZA.out (AddrM.one _) ?_; intro w5 hb5 hg5)
  (try simp only [Act.put])
  have hm5 := HMZ.out.put 0 rfl _ hg5 hb5
  clear hb5 hg5 HMZ
  generalize w4.heap.size = gA at hm5 ⊢
  have HM := Lib.hid (show Mem w [blkE gA 25 ra.cells, blkE w.heap.size 27 (prefC addr0 0)] w5 from hm5)
  clear hm5
  go_wp2_with fail
  refine (HPN.out _ (HLV.out.below HM.out.bel)).mono ?_
  rintro e w6 ⟨rfl, hb⟩
  replace HM := Lib.hid (show Mem w [blkE gA 25 ra.cells, blkE w.heap.size 27 (prefC addr0 0)] w6 from HM.out.below hb)
  clear hb hx2 hwp
  by_cases he : re = 0
  case neg =>
    replace HV := Lib.hid (HV.out.trans (if_pos (.inl he)))
    have e1 : ((re : Int) != 0) = true := by rw [bne_iff_ne]; omega
    clear he
    go_wp2_with (first | (refine wpList_build_as rfl 27 [] rfl #[.bool false, .int .u8 0, .int .u8 0, .int .u8 0, .int .u8 0, .int .u8 0, .int .u8 0, .int .u8 0, .int .u8 0, .int .u8 0, .int .u8 0, .int .u8 0, .int .u8 0, .int .u8 0, .int .u8 0, .int .u8 0, .int .u8 0, .int .i64 0] ?_ ?_; kernel_rfl) | (refine wpList_store_blk rfl 27 (.tmp 2) (.tmp 53) rfl w.heap.size (prefC addr0 0) rfl (by rfl) 27 (prefC addr0 0) (HM.out.blk 1 rfl) HU0.out rfl (prefC_one addr0 0) ?_; intro w9 hb9 hg9))
    exact bodyPost_ret (results_obj_tmp rfl _ _ w.heap.size 27 (prefC addr0 0) _ rfl hb9 Tryz.underlying27 rfl HU0.out) rfl ⟨by rw [HV.out]; rfl, (HM.out.put 1 rfl _ hg9 hb9).bel⟩
  subst he
  cases okq
  case false =>
    replace HV := Lib.hid (HV.out.trans (if_pos (.inr (.inl rfl))))
    rw [show okN false = 5 from rfl]
    go_wp2_with (first | (refine wpList_build_as rfl 27 [] rfl #[.bool false, .int .u8 0, .int .u8 0, .int .u8 0, .int .u8 0, .int .u8 0, .int .u8 0, .int .u8 0, .int .u8 0, .int .u8 0, .int .u8 0, .int .u8 0, .int .u8 0, .int .u8 0, .int .u8 0, .int .u8 0, .int .u8 0, .int .i64 0] ?_ ?_; kernel_rfl) | (refine wpList_store_blk rfl 27 (.tmp 2) (.tmp 53) rfl w.heap.size (prefC addr0 0) rfl (by rfl) 27 (prefC addr0 0) (HM.out.blk 1 rfl) HU0.out rfl (prefC_one addr0 0) ?_; intro w9 hb9 hg9))
    exact bodyPost_ret (results_obj_tmp rfl _ _ w.heap.size 27 (prefC addr0 0) _ rfl hb9 Tryz.underlying27 rfl HU0.out) rfl ⟨by rw [HV.out]; rfl, (HM.out.put 1 rfl _ hg9 hb9).bel⟩
  rw [show okN true = 0 from rfl]
  have fsix : w6.cell? ⟨gA, 0, none⟩ = some (.bool ra.six) := (HM.out.blk 0 rfl).cell 0
  obtain ⟨sx, hsx⟩ : ∃ z, ra.six = z := ⟨_, rfl⟩
  rw [hsx] at fsix HV
  by_cases hbb : sx = br
  case neg =>
    replace HV := Lib.hid (HV.out.trans (if_pos (.inr (.inr (.inl hbb)))))
    cases sx <;> cases br <;> try (exact absurd rfl hbb)
    all_goals clear hbb hsx
    · skip
      go_wp2_with (first | (refine wpList_build_as rfl 27 [] rfl #[.bool false, .int .u8 0, .int .u8 0, .int .u8 0, .int .u8 0, .int .u8 0, .int .u8 0, .int .u8 0, .int .u8 0, .int .u8 0, .int .u8 0, .int .u8 0, .int .u8 0, .int .u8 0, .int .u8 0, .int .u8 0, .int .u8 0, .int .i64 0] ?_ ?_; kernel_rfl) | (refine wpList_store_blk rfl 27 (.tmp 2) (.tmp 53) rfl w.heap.size (prefC addr0 0) rfl (by rfl) 27 (prefC addr0 0) (HM.out.blk 1 rfl) HU0.out rfl (prefC_one addr0 0) ?_; intro w9 hb9 hg9))
      exact bodyPost_ret (results_obj_tmp rfl _ _ w.heap.size 27 (prefC addr0 0) _ rfl hb9 Tryz.underlying27 rfl HU0.out) rfl ⟨by rw [HV.out]; rfl, (HM.out.put 1 rfl _ hg9 hb9).bel⟩
    · skip
      go_wp2_with (first | (refine wpList_build_as rfl 27 [] rfl #[.bool false, .int .u8 0, .int .u8 0, .int .u8 0, .int .u8 0, .int .u8 0, .int .u8 0, .int .u8 0, .int .u8 0, .int .u8 0, .int .u8 0, .int .u8 0, .int .u8 0, .int .u8 0, .int .u8 0, .int .u8 0, .int .u8 0, .int .i64 0] ?_ ?_; kernel_rfl) | (refine wpList_store_blk rfl 27 (.tmp 2) (.tmp 53) rfl w.heap.size (prefC addr0 0) rfl (by rfl) 27 (prefC addr0 0) (HM.out.blk 1 rfl) HU0.out rfl (prefC_one addr0 0) ?_; intro w9 hb9 hg9))
      exact bodyPost_ret (results_obj_tmp rfl _ _ w.heap.size 27 (prefC addr0 0) _ rfl hb9 Tryz.underlying27 rfl HU0.out) rfl ⟨by rw [HV.out]; rfl, (HM.out.put 1 rfl _ hg9 hb9).bel⟩
  subst hbb
  by_cases hvp : 1 ≤ (q : Int) ∧ (q : Int) ≤ 65535
  case neg =>
    replace HV := Lib.hid (HV.out.trans (if_pos (.inr (.inr (.inr (by omega))))))
    rw [decide_eq_false hvp] at HVP
    clear hvp hsx
    cases sx
    · go_wp2_with fail
      refine (HVP.out _).mono ?_
      rintro e w7 ⟨rfl, rfl⟩
      go_wp2_with (first | (refine wpList_build_as rfl 27 [] rfl #[.bool false, .int .u8 0, .int .u8 0, .int .u8 0, .int .u8 0, .int .u8 0, .int .u8 0, .int .u8 0, .int .u8 0, .int .u8 0, .int .u8 0, .int .u8 0, .int .u8 0, .int .u8 0, .int .u8 0, .int .u8 0, .int .u8 0, .int .i64 0] ?_ ?_; kernel_rfl) | (refine wpList_store_blk rfl 27 (.tmp 2) (.tmp 53) rfl w.heap.size (prefC addr0 0) rfl (by rfl) 27 (prefC addr0 0) (HM.out.blk 1 rfl) HU0.out rfl (prefC_one addr0 0) ?_; intro w9 hb9 hg9))
      exact bodyPost_ret (results_obj_tmp rfl _ _ w.heap.size 27 (prefC addr0 0) _ rfl hb9 Tryz.underlying27 rfl HU0.out) rfl ⟨by rw [HV.out]; rfl, (HM.out.put 1 rfl _ hg9 hb9).bel⟩
    · go_wp2_with fail
      refine (HVP.out _).mono ?_
      rintro e w7 ⟨rfl, rfl⟩
      go_wp2_with (first | (refine wpList_build_as rfl 27 [] rfl #[.bool false, .int .u8 0, .int .u8 0, .int .u8 0, .int .u8 0, .int .u8 0, .int .u8 0, .int .u8 0, .int .u8 0, .int .u8 0, .int .u8 0, .int .u8 0, .int .u8 0, .int .u8 0, .int .u8 0, .int .u8 0, .int .u8 0, .int .i64 0] ?_ ?_; kernel_rfl) | (refine wpList_store_blk rfl 27 (.tmp 2) (.tmp 53) rfl w.heap.size (prefC addr0 0) rfl (by rfl) 27 (prefC addr0 0) (HM.out.blk 1 rfl) HU0.out rfl (prefC_one addr0 0) ?_; intro w9 hb9 hg9))
      exact bodyPost_ret (results_obj_tmp rfl _ _ w.heap.size 27 (prefC addr0 0) _ rfl hb9 Tryz.underlying27 rfl HU0.out) rfl ⟨by rw [HV.out]; rfl, (HM.out.put 1 rfl _ hg9 hb9).bel⟩
  replace HV := Lib.hid (HV.out.trans (if_neg (by rintro (h | h | h | h); exact h rfl; cases h; exact h rfl; omega)))
  rw [decide_eq_true hvp] at HVP
  have HMY := Lib.hid HM.out
  clear hvp hsx
  cases sx
  · go_wp2_with fail
    refine (HVP.out _).mono ?_
    rintro e w7 ⟨rfl, rfl⟩
    go_wp2_with (first | (refine wpList_load_obj rfl 25 (.tmp 7) rfl gA 0 rfl ra.cells (HM.out.blk 0 rfl).all _ Tryz.underlying25 rfl HU1.out ?_; rw [HCR.out]) | (refine wpList_build_as rfl 27 [(0, .tmp 54), (1, .tmp 55)] rfl cpx ?_ ?_; exact HBT.out) | (refine wpList_store_blk rfl 27 (.tmp 2) (.tmp 56) rfl w.heap.size (prefC ra (q : Int)) rfl (by show Value.agg cpx = _; rw [HCP.out]) 27 (prefC addr0 0) (HM.out.blk 1 rfl) HUP.out HZP.out (prefC_one _ _) ?_; intro w9 hb9 hg9))
    exact bodyPost_ret (results_obj_tmp rfl _ _ w.heap.size 27 (prefC ra (q : Int)) _ rfl hb9 Tryz.underlying27 rfl HUP.out) rfl ⟨by rw [HV.out]; rfl, (HM.out.put 1 rfl _ hg9 hb9).bel⟩
  · go_wp2_with fail
    refine (HVP.out _).mono ?_
    rintro e w7 ⟨rfl, rfl⟩
    go_wp2_with (first | (refine wpList_load_obj rfl 25 (.tmp 7) rfl gA 0 rfl ra.cells (HM.out.blk 0 rfl).all _ Tryz.underlying25 rfl HU1.out ?_; rw [HCR.out]) | (refine wpList_build_as rfl 27 [(0, .tmp 54), (1, .tmp 55)] rfl cpx ?_ ?_; exact HBT.out) | (refine wpList_store_blk rfl 27 (.tmp 2) (.tmp 56) rfl w.heap.size (prefC ra (q : Int)) rfl (by show Value.agg cpx = _; rw [HCP.out]) 27 (prefC addr0 0) (HM.out.blk 1 rfl) HUP.out HZP.out (prefC_one _ _) ?_; intro w9 hb9 hg9))
    exact bodyPost_ret (results_obj_tmp rfl _ _ w.heap.size 27 (prefC ra (q : Int)) _ rfl hb9 Tryz.underlying27 rfl HUP.out) rfl ⟨by rw [HV.out]; rfl, (HM.out.put 1 rfl _ hg9 hb9).bel⟩
end Go.Proofs.YtkhghmmgegkiiaaGreatDoor
namespace Go.Proofs.YtkhghmmgegkiiaaGreatDoor
open Go.RowKit

theorem cfFmtAddrC : CfFmtAddrC 17 := fun a h w hl => fmtAddr_any a h w hl
theorem cfParseAddrC : CfParseAddrC 21 := fun l h w hl => parseAddr_any l h w hl
theorem cfFmtEndC : CfFmtEndC 18 := fun a h p h1 h2 w hl => fmtEnd_any a h p h1 h2 w hl
theorem cfParseEndC : CfParseEndC 22 := fun l h w hl => parseEnd_any l h w hl
theorem cfFmtPrefC : CfFmtPrefC 19 := fun a h b h1 h2 w hl => fmtPref_any a h b h1 h2 w hl
theorem cfParsePrefC : CfParsePrefC 23 := fun l h w hl => parsePref_any l h w hl
end Go.Proofs.YtkhghmmgegkiiaaGreatDoor
namespace Go.Proofs.YtkhghmmgegkiiaaGreatDoor
open Go.RowKit

theorem cf_return_all (w : World) (hlv : LvCf w) (A : Option Addr) (n c : Nat) (l0 : List UInt8) (hnc : n ≤ c) (hcm : c ≤ maxLen) (hr : Rd w w.heap.size A n l0) :
    Calls Tryz.prog 4 #[.slice A n c] w fun e w' => e = .returned (.bool true) ∧ Below w.heap.size w w' :=
  cf_return_walk cfFmtAddrC cfParseAddrC cfFmtEndC cfParseEndC cfFmtPrefC cfParsePrefC w A n c l0 hnc hcm hr hlv
end Go.Proofs.YtkhghmmgegkiiaaGreatDoor
