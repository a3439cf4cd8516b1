/-
  The contract of config's parseFour. The contract of config's parseSix. The contract of config's ParseAddr. The contract of config's ParsePrefix. An endpoint that is built of its parts. The contract of config's ParseEndpoint. What is asked of config's functions that read and write addresses holds of the landed code. The contracts of config's require and must where nothing is wrong. The contract of config's readInterface on entries that it accepts. The contract of the parser's endSection where nothing is missing. The contract of the parser's readEntry in the section of the interface. Contracts of Go library functions that layer 13 reads and writes configurations by, laid by the kit shelf: Trim, TrimLeft, TrimRight, FormatInt, Split. The contracts of strings.Trim, TrimLeft, TrimRight at spaces and tabs. The contract of the parser's readLine: a line that is ignored, the line of the interface, an entry of it. The contracts of config's wrongPrefix, validKeepalive; slices.IndexFunc and ContainsFunc at prefixes and at peers. The contracts of config's validEndpoint and wrongPeer. The contract of config's Validate. The bits of an exclusive or of two bytes. The choices that the statements are made of, at a world. A slice built of arrays of one size: its block holds them one behind the other. No statement is proved here.
-/
import Derived.Deep.DeepCutAuto
import Derived.RegionTactic
import Derived.Laws.Cover3
import Derived.Shelf.Strings.SlTrimAscii
import Derived.Shelf.Strings.Split
import Derived.Shelf.Strconv.Itoa4
import Derived.Test.YtcbfchkhbngpkaaGreatDoorConfigValidatesB6
namespace Go.Proofs.YtcbfchkhbngpkaaGreatDoor
open Go.RowKit

set_option maxRecDepth 100000 in
set_option maxHeartbeats 8000000 in
theorem parseFour_any (l : List UInt8) (hl : l.length ≤ 100000) (R : AddrM × Nat) (hR : R = if (partsN 46 4 l).length = 4 then fourP (partsN 46 4 l) else (addr0, 5)) (w : World) (hlv : LvCf w) :
    Calls Tryz.prog 87 #[.string ⟨l.toArray⟩] w fun e w' => e = .returned (.tuple #[.agg R.1.cells.toArray, .int .i64 (R.2 : Int)]) ∧ Below w.heap.size w w' := by
  have HLV := Lib.hid hlv
  have HSN := Lib.hid (fun W h => splitN_c l 46 4 (by omega) (by omega) (by omega) W h)
  have hpl := parts_part 46 4 l
  have hps := parts_size 46 4 (by omega) l
  generalize partsN 46 4 l = ls at HSN hpl hps hR
  have HLEN := Lib.hid (show ∀ s ∈ ls, s.length ≤ 100000 from fun s hs => Nat.le_trans (hpl s hs) hl)
  have HR := Lib.hid hR
  obtain ⟨S, hS⟩ : ∃ S : ByteArray, ⟨l.toArray⟩ = S := ⟨_, rfl⟩
  rw [hS] at HSN ⊢
  have HU0 := Lib.hid (show (Tryz.prog.info? 53).map (·.size) = some addr0.cells.length from by kernel_rfl)
  have HM := Lib.hid (show Mem w [blkE w.heap.size 53 addr0.cells] (w.alloc (.cells #[.bool false, .int .u8 0, .int .u8 0, .int .u8 0, .int .u8 0, .int .u8 0, .int .u8 0, .int .u8 0, .int .u8 0, .int .u8 0, .int .u8 0, .int .u8 0, .int .u8 0, .int .u8 0, .int .u8 0, .int .u8 0, .int .u8 0] 53)) from (Mem.nil w).alloc rfl 53 #[.bool false, .int .u8 0, .int .u8 0, .int .u8 0, .int .u8 0, .int .u8 0, .int .u8 0, .int .u8 0, .int .u8 0, .int .u8 0, .int .u8 0, .int .u8 0, .int .u8 0, .int .u8 0, .int .u8 0, .int .u8 0, .int .u8 0] addr0.cells rfl)
  clear hlv hpl hR hS hl
  go_enter Tryz.func87, Tryz.ntmps87
  go_upto_region 1 with fail
  generalize w.alloc (.cells #[.bool false, .int .u8 0, .int .u8 0, .int .u8 0, .int .u8 0, .int .u8 0, .int .u8 0, .int .u8 0, .int .u8 0, .int .u8 0, .int .u8 0, .int .u8 0, .int .u8 0, .int .u8 0, .int .u8 0, .int .u8 0, .int .u8 0] 53) = w1 at HM ⊢
  go_wp2_with fail
  refine (HSN.out _ (HLV.out.below HM.out.bel)).mono ?_
  rintro e w2 ⟨g, c, rfl, hc1, hc2, hat, hg, hb⟩
  replace HM := Lib.hid (HM.out.below hb)
  have HAT := Lib.hid hat
  have HG := Lib.hid hg
  clear hat hg hb HSN
  obtain ⟨n, hn⟩ : ∃ n, ls.length = n := ⟨_, rfl⟩
  rw [hn] at HR hps hc1 ⊢
  by_cases h4 : n = 4
  rotate_left
  · replace HR := Lib.hid (HR.out.trans (if_neg h4))
    have hne : ¬ (n : Int) = 4 := by omega
    clear hn
    go_wp2_with (first | (refine wpList_build_as rfl 53 [] rfl #[.bool false, .int .u8 0, .int .u8 0, .int .u8 0, .int .u8 0, .int .u8 0, .int .u8 0, .int .u8 0, .int .u8 0, .int .u8 0, .int .u8 0, .int .u8 0, .int .u8 0, .int .u8 0, .int .u8 0, .int .u8 0, .int .u8 0] ?_ ?_; kernel_rfl) | (refine wpList_store_blk rfl 53 (.tmp 2) (.tmp 15) rfl w.heap.size addr0.cells rfl (by rfl) 53 addr0.cells (HM.out.blk 0 rfl) HU0.out rfl (AddrM.one _) ?_; intro w9 hb9 hg9))
    exact bodyPost_ret (results_obj_tmp rfl _ _ w.heap.size 53 addr0.cells _ rfl hb9 Tryz.underlying53 rfl HU0.out) rfl ⟨by rw [HR.out]; rfl, (HM.out.put 0 rfl _ hg9 hb9).bel⟩
  subst h4
  replace HR := Lib.hid (show R = if ls.all fourOk = true then (⟨false, (ls.map fun s => UInt8.ofNat (numP s 3).1) ++ List.replicate 12 0⟩, 0) else (addr0, 5) from HR.out.trans (if_pos rfl))
  have HL := Lib.hid hn
  clear hn hps hc1
  have hm3 : Mem w [blkE w2.heap.size 53 (AddrM.mk false (fourIp ls 0)).cells, blkE w.heap.size 53 addr0.cells] (w2.alloc (.cells #[.bool false, .int .u8 0, .int .u8 0, .int .u8 0, .int .u8 0, .int .u8 0, .int .u8 0, .int .u8 0, .int .u8 0, .int .u8 0, .int .u8 0, .int .u8 0, .int .u8 0, .int .u8 0, .int .u8 0, .int .u8 0, .int .u8 0] 53)) := HM.out.alloc rfl 53 #[.bool false, .int .u8 0, .int .u8 0, .int .u8 0, .int .u8 0, .int .u8 0, .int .u8 0, .int .u8 0, .int .u8 0, .int .u8 0, .int .u8 0, .int .u8 0, .int .u8 0, .int .u8 0, .int .u8 0, .int .u8 0, .int .u8 0] (AddrM.mk false (fourIp ls 0)).cells rfl
  have hb3 : Below w2.heap.size w2 (w2.alloc (.cells #[.bool false, .int .u8 0, .int .u8 0, .int .u8 0, .int .u8 0, .int .u8 0, .int .u8 0, .int .u8 0, .int .u8 0, .int .u8 0, .int .u8 0, .int .u8 0, .int .u8 0, .int .u8 0, .int .u8 0, .int .u8 0, .int .u8 0] 53)) := (Below.refl _ _).alloc (Nat.le_refl _) _
  go_upto_region 5 with fail
  generalize w2.alloc (.cells #[.bool false, .int .u8 0, .int .u8 0, .int .u8 0, .int .u8 0, .int .u8 0, .int .u8 0, .int .u8 0, .int .u8 0, .int .u8 0, .int .u8 0, .int .u8 0, .int .u8 0, .int .u8 0, .int .u8 0, .int .u8 0, .int .u8 0] 53) = w3 at hm3 hb3 ⊢
  replace HM := Lib.hid hm3
  have HB := Lib.hid hb3
  clear hm3 hb3
  go_wp2_with fail
  go_loopw [18] (fun i wr => ∃ j : Nat, j ≤ 4 ∧ i = .int .i64 (j : Int) ∧ Hid ((ls.take j).all fourOk = true) ∧ Mem w [blkE w2.heap.size 53 (AddrM.mk false (fourIp ls j)).cells, blkE w.heap.size 53 addr0.cells] wr ∧ Below w2.heap.size w2 wr) (fun i _ => 4 - (intOf i).toNat)
  case atStart => exact ⟨0, by omega, rfl, Lib.hid rfl, HM.out, HB.out⟩
  case round =>
    obtain ⟨j, hj, rfl, hall, hM, hB⟩ := hrel
    replace HM := Lib.hid hM
    replace HB := Lib.hid hB
    clear hM hB
    by_cases hlt : j < 4
    · have hjl : j < ls.length := by have := HL.out; omega
      obtain ⟨s, hs⟩ : ∃ z, ls.getD j [] = z := ⟨_, rfl⟩
      have hcell : wr.cell? ⟨g, j, none⟩ = some (.string ⟨s.toArray⟩) := by
        have h := HAT.out j (.string ⟨s.toArray⟩) (by rw [List.getElem?_map, List.getElem?_eq_getElem hjl, ← hs, List.getD_eq_getElem?_getD, List.getElem?_eq_getElem hjl]; rfl)
        rw [Nat.zero_add] at h
        exact (HB.out.cell (p := ⟨g, j, none⟩) HG.out).trans h
      have hsl : s.length ≤ 100000 := HLEN.out s (by rw [← hs, List.getD_eq_getElem?_getD, List.getElem?_eq_getElem hjl]; exact List.getElem_mem _)
      have HALL := Lib.hid (show (ls.take (j + 1)).all fourOk = fourOk s from by rw [all_take_ls fourOk ls j hjl, hall.out, hs, Bool.true_and])
      have HNOT := Lib.hid (fun h : fourOk s = false => all_not (p := fourOk) hjl (by rw [hs]; exact h))
      have hnc := number_any s (by omega) wr (HLV.out.below HM.out.bel)
      have hfo := fourOk_ten s
      have HSET := Lib.hid (fun h : fourOk s = true => show (fourIp ls j).set j (UInt8.ofNat (numP s 10).1) = fourIp ls (j + 1) from by rw [four_ten s h, ← hs]; exact four_set ls j hjl (by omega))
      have hlt10 := numP_lt s 10
      generalize hn : numP s 10 = nb at hnc HSET hfo hlt10
      obtain ⟨n, ok⟩ := nb
      dsimp only at hfo HSET hnc hlt10
      have hjj : (0 : Int) ≤ (j : Int) := by omega
      clear hs hn
      cases ok
      · rw [show okN false = 5 from rfl] at hnc
        have HNC := Lib.hid hnc
        have HNO := Lib.hid (show ¬ ls.all fourOk = true from by rw [HNOT.out (by rw [hfo]; rfl)]; decide)
        clear hnc
        go_wp2_with fail
        refine HNC.out.mono ?_
        rintro e w5 ⟨rfl, hb⟩
        replace HM := Lib.hid (HM.out.below hb)
        clear hb hcell
        go_wp2_with (first | (refine wpList_build_as rfl 53 [] rfl #[.bool false, .int .u8 0, .int .u8 0, .int .u8 0, .int .u8 0, .int .u8 0, .int .u8 0, .int .u8 0, .int .u8 0, .int .u8 0, .int .u8 0, .int .u8 0, .int .u8 0, .int .u8 0, .int .u8 0, .int .u8 0, .int .u8 0] ?_ ?_; kernel_rfl) | (refine wpList_store_blk rfl 53 (.tmp 2) (.tmp 34) rfl w.heap.size addr0.cells rfl (by rfl) 53 addr0.cells (HM.out.blk 1 rfl) HU0.out rfl (AddrM.one _) ?_; intro w9 hb9 hg9))
        exact bodyPost_ret (results_obj_tmp rfl _ _ w.heap.size 53 addr0.cells _ rfl hb9 Tryz.underlying53 rfl HU0.out) rfl ⟨by rw [HR.out, if_neg HNO.out]; rfl, (HM.out.put 1 rfl _ hg9 hb9).bel⟩
      rw [show okN true = 0 from rfl] at hnc
      have HNC := Lib.hid hnc
      by_cases hbig : 255 < n
      · have HNO := Lib.hid (show ¬ ls.all fourOk = true from by rw [HNOT.out (by rw [hfo]; simp; omega)]; decide)
        clear hnc
        go_wp2_with fail
        refine HNC.out.mono ?_
        rintro e w5 ⟨rfl, hb⟩
        replace HM := Lib.hid (HM.out.below hb)
        clear hb hcell
        go_wp2_with (first | (refine wpList_build_as rfl 53 [] rfl #[.bool false, .int .u8 0, .int .u8 0, .int .u8 0, .int .u8 0, .int .u8 0, .int .u8 0, .int .u8 0, .int .u8 0, .int .u8 0, .int .u8 0, .int .u8 0, .int .u8 0, .int .u8 0, .int .u8 0, .int .u8 0, .int .u8 0] ?_ ?_; kernel_rfl) | (refine wpList_store_blk rfl 53 (.tmp 2) (.tmp 34) rfl w.heap.size addr0.cells rfl (by rfl) 53 addr0.cells (HM.out.blk 1 rfl) HU0.out rfl (AddrM.one _) ?_; intro w9 hb9 hg9))
        exact bodyPost_ret (results_obj_tmp rfl _ _ w.heap.size 53 addr0.cells _ rfl hb9 Tryz.underlying53 rfl HU0.out) rfl ⟨by rw [HR.out, if_neg HNO.out]; rfl, (HM.out.put 1 rfl _ hg9 hb9).bel⟩
      · have hok : fourOk s = true := by rw [hfo]; simp; omega
        have HOK := Lib.hid hok
        have hset := HSET.out hok
        obtain ⟨x, hx⟩ : ∃ z, UInt8.ofNat n = z := ⟨_, rfl⟩
        have hxn : IntKind.u8.wrap (n : Int) = (x.toNat : Int) := by rw [← hx, UInt8.toNat_ofNat', IntKind.wrap_u8']; omega
        rw [hx] at hset
        have HST := Lib.hid hset
        clear hx hnc hset hok
        go_wp2_with fail
        refine HNC.out.mono ?_
        rintro e w5 ⟨rfl, hb⟩
        replace HM := Lib.hid (HM.out.below hb)
        replace HB := Lib.hid (HB.out.trans (hb.mono HB.out.size))
        clear hb hcell
        have fx := (HM.out.blk 0 rfl).cell (1 + j)
        rw [AddrM.ip_cell _ (by show (fourIp ls j).length = 16; rw [fourIp, List.length_append, List.length_map, List.length_take, List.length_replicate]; have := HL.out; omega) j (by omega)] at fx
        have zx := (HM.out.blk 0 rfl).frozen (1 + j)
        go_wp2_with fail
        have hm := HM.out.setCell 0 rfl (1 + j) (.int .u8 (x.toNat : Int))
        have hmv : (AddrM.mk false (fourIp ls j)).cells.set (1 + j) (.int .u8 (x.toNat : Int)) = (AddrM.mk false (fourIp ls (j + 1))).cells := by rw [← HST.out]; exact AddrM.set_cell _ j x
        rw [hmv] at hm
        exact ⟨⟨j + 1, by omega, by go_num, Lib.hid (HALL.out.trans HOK.out), hm, HB.out.setCell (Nat.le_refl _) _⟩, by simp [intOf]; omega⟩
    · obtain rfl : j = 4 := by omega
      have HALL := Lib.hid (show ls.all fourOk = true from by have h := hall.out; rwa [List.take_of_length_le (by have := HL.out; omega)] at h)
      have HE := Lib.hid (show fourIp ls 4 = (ls.map fun s => UInt8.ofNat (numP s 3).1) ++ List.replicate 12 0 from by rw [fourIp, List.take_of_length_le (by have := HL.out; omega)])
      have hok4 : (AddrM.mk false (fourIp ls 4)).ok := by
        show (fourIp ls 4).length = 16
        rw [fourIp, List.length_append, List.length_map, List.length_take, List.length_replicate]
        have := HL.out
        omega
      have HU1 := Lib.hid (addr_cellsOf _ hok4)
      have HCL := Lib.hid (show addr0.cells.length = (AddrM.mk false (fourIp ls 4)).cells.length from (AddrM.cells_length addr0_ok).trans (AddrM.cells_length hok4).symm)
      obtain ⟨cz, hcz⟩ : ∃ z, (AddrM.mk false (fourIp ls 4)).cells.toArray = z := ⟨_, rfl⟩
      have HCZ := Lib.hid hcz
      clear hcz
      go_wp2_with (first | (refine wpList_load_obj rfl 53 (.tmp 5) rfl w2.heap.size 0 rfl (AddrM.mk false (fourIp ls 4)).cells (HM.out.blk 0 rfl).all _ Tryz.underlying53 rfl HU1.out ?_; rw [HCZ.out]) | (refine wpList_store_blk rfl 53 (.tmp 2) (.tmp 41) rfl w.heap.size (AddrM.mk false (fourIp ls 4)).cells rfl (by show Value.agg cz = _; rw [HCZ.out]) 53 addr0.cells (HM.out.blk 1 rfl) HU1.out HCL.out (AddrM.one _) ?_; intro w9 hb9 hg9))
      exact bodyPost_ret (results_obj_tmp rfl _ _ w.heap.size 53 (AddrM.mk false (fourIp ls 4)).cells _ rfl hb9 Tryz.underlying53 rfl HU1.out) rfl ⟨by rw [HR.out, if_pos HALL.out, ← HE.out]; rfl, (HM.out.put 1 rfl _ hg9 hb9).bel⟩
end Go.Proofs.YtcbfchkhbngpkaaGreatDoor
namespace Go.Proofs.YtcbfchkhbngpkaaGreatDoor
open Go.RowKit

theorem six_cells (ip : List UInt8) (h : ip.length = 16) (p : Nat) (hp : p + 1 < 16) (x y : UInt8) : (AddrM.mk true ip).cells.take (1 + p) ++ [x, y].map u8v ++ (AddrM.mk true ip).cells.drop (1 + p + ([x, y].map u8v).length) = (AddrM.mk true ((ip.set p x).set (p + 1) y)).cells := by
  have e : (ip.set p x).set (p + 1) y = ip.take p ++ [x, y] ++ ip.drop (p + 2) := by
    have h1 : (ip.take p).length = p := by rw [List.length_take]; omega
    have e0 : ip.set p x = ip.take p ++ x :: ip.drop (p + 1) := by rw [List.set_eq_take_append_cons_drop, if_pos (by omega)]
    rw [e0, List.set_append_right _ _ (by omega), h1, show p + 1 - p = 1 from by omega, List.set_cons_succ, List.drop_eq_getElem_cons (show p + 1 < ip.length by omega), List.set_cons_zero]
    simp
  rw [e]
  simp only [AddrM.cells, List.map_append, List.map_take, List.map_drop, List.length_map, List.length_cons, List.length_nil, List.append_assoc]
  rw [Nat.add_comm 1 p, List.take_succ_cons, show p + 1 + (0 + 1 + 1) = p + 2 + 1 from by omega, List.drop_succ_cons]
  simp
set_option maxRecDepth 100000 in
theorem array16_from (g p : Nat) (hp : p ≤ 15) (w : World) :
    (Instr.sliceAt 51 (.pointer (some ⟨g, 1, none⟩)) (some (.int .i64 (p : Int))) none none).run Tryz.prog w = .ok (.slice (some ⟨g, 1 + p, none⟩) (16 - p) (16 - p)) w := by
  have hs : (sizeOf 5).run Tryz.prog w = .ok 1 w := by
    obtain ⟨i0, hi, hz0, hz1, hz2⟩ := info_parts Tryz.info5
    simp [sizeOf, typeInfo, hi, hz1]
  have hl : Tryz.prog.arrayLen 51 = 16 := by kernel_rfl
  have he : Tryz.prog.elem 51 = 5 := by kernel_rfl
  rw [run_sliceAt_array_l (P := Tryz.prog) w 51 ⟨g, 1, none⟩ (by rw [hl, he]; exact Tryz.underlying51) .i64 (p : Int) (by omega) (by rw [hl]; omega), hl, he, hs]
  simp only [Result.andThen, slicedAt, Int.toNat_natCast, Go.WideShapes.add_plain, Nat.mul_one]
  rw [if_neg (by omega)]
set_option maxRecDepth 100000 in
set_option maxHeartbeats 8000000 in
theorem parseSix_any (l : List UInt8) (hl : l.length ≤ 100000) (R : AddrM × Nat) (hR : R = if (partsN 58 8 l).length = 8 then sixP (partsN 58 8 l) else (addr0, 5)) (w : World) (hlv : LvCf w) :
    Calls Tryz.prog 86 #[.string ⟨l.toArray⟩] w fun e w' => e = .returned (.tuple #[.agg R.1.cells.toArray, .int .i64 (R.2 : Int)]) ∧ Below w.heap.size w w' := by
  have HLV := Lib.hid hlv
  have HSN := Lib.hid (fun W h => splitN_c l 58 8 (by omega) (by omega) (by omega) W h)
  have hpl := parts_part 58 8 l
  have hps := parts_size 58 8 (by omega) l
  generalize partsN 58 8 l = ls at HSN hpl hps hR
  have HLEN := Lib.hid (show ∀ s ∈ ls, s.length ≤ 100000 from fun s hs => Nat.le_trans (hpl s hs) hl)
  have HR := Lib.hid hR
  obtain ⟨S, hS⟩ : ∃ S : ByteArray, ⟨l.toArray⟩ = S := ⟨_, rfl⟩
  rw [hS] at HSN ⊢
  have HU0 := Lib.hid (show (Tryz.prog.info? 53).map (·.size) = some addr0.cells.length from by kernel_rfl)
  have HM := Lib.hid (show Mem w [blkE w.heap.size 53 addr0.cells] (w.alloc (.cells #[.bool false, .int .u8 0, .int .u8 0, .int .u8 0, .int .u8 0, .int .u8 0, .int .u8 0, .int .u8 0, .int .u8 0, .int .u8 0, .int .u8 0, .int .u8 0, .int .u8 0, .int .u8 0, .int .u8 0, .int .u8 0, .int .u8 0] 53)) from (Mem.nil w).alloc rfl 53 #[.bool false, .int .u8 0, .int .u8 0, .int .u8 0, .int .u8 0, .int .u8 0, .int .u8 0, .int .u8 0, .int .u8 0, .int .u8 0, .int .u8 0, .int .u8 0, .int .u8 0, .int .u8 0, .int .u8 0, .int .u8 0, .int .u8 0] addr0.cells rfl)
  clear hlv hpl hR hS hl
  go_enter Tryz.func86, Tryz.ntmps86
  go_upto_region 1 with fail
  generalize w.alloc (.cells #[.bool false, .int .u8 0, .int .u8 0, .int .u8 0, .int .u8 0, .int .u8 0, .int .u8 0, .int .u8 0, .int .u8 0, .int .u8 0, .int .u8 0, .int .u8 0, .int .u8 0, .int .u8 0, .int .u8 0, .int .u8 0, .int .u8 0] 53) = w1 at HM ⊢
  go_wp2_with fail
  refine (HSN.out _ (HLV.out.below HM.out.bel)).mono ?_
  rintro e w2 ⟨g, c, rfl, hc1, hc2, hat, hg, hb⟩
  replace HM := Lib.hid (HM.out.below hb)
  have HAT := Lib.hid hat
  have HG := Lib.hid hg
  clear hat hg hb HSN
  obtain ⟨n, hn⟩ : ∃ n, ls.length = n := ⟨_, rfl⟩
  rw [hn] at HR hps hc1 ⊢
  by_cases h4 : n = 8
  rotate_left
  · replace HR := Lib.hid (HR.out.trans (if_neg h4))
    have hne : ¬ (n : Int) = 8 := by omega
    clear hn
    go_wp2_with (first | (refine wpList_build_as rfl 53 [] rfl #[.bool false, .int .u8 0, .int .u8 0, .int .u8 0, .int .u8 0, .int .u8 0, .int .u8 0, .int .u8 0, .int .u8 0, .int .u8 0, .int .u8 0, .int .u8 0, .int .u8 0, .int .u8 0, .int .u8 0, .int .u8 0, .int .u8 0] ?_ ?_; kernel_rfl) | (refine wpList_store_blk rfl 53 (.tmp 2) (.tmp 15) rfl w.heap.size addr0.cells rfl (by rfl) 53 addr0.cells (HM.out.blk 0 rfl) HU0.out rfl (AddrM.one _) ?_; intro w9 hb9 hg9))
    exact bodyPost_ret (results_obj_tmp rfl _ _ w.heap.size 53 addr0.cells _ rfl hb9 Tryz.underlying53 rfl HU0.out) rfl ⟨by rw [HR.out]; rfl, (HM.out.put 0 rfl _ hg9 hb9).bel⟩
  subst h4
  replace HR := Lib.hid (show R = if ls.all hxsOk = true then (⟨true, ls.flatMap fun s => [UInt8.ofNat (hexN s / 256), UInt8.ofNat (hexN s % 256)]⟩, 0) else (addr0, 5) from HR.out.trans (if_pos rfl))
  have HL := Lib.hid hn
  clear hn hps hc1
  have hbt : Tryz.prog.built 53 [(0, .bool true)] = some #[.bool true, .int .u8 0, .int .u8 0, .int .u8 0, .int .u8 0, .int .u8 0, .int .u8 0, .int .u8 0, .int .u8 0, .int .u8 0, .int .u8 0, .int .u8 0, .int .u8 0, .int .u8 0, .int .u8 0, .int .u8 0, .int .u8 0] := by kernel_rfl
  have HBT := Lib.hid hbt
  have HMZ := Lib.hid (show Mem w [blkE w2.heap.size 53 (AddrM.mk false (List.replicate 16 0)).cells, blkE w.heap.size 53 addr0.cells] (w2.alloc (.cells #[.bool false, .int .u8 0, .int .u8 0, .int .u8 0, .int .u8 0, .int .u8 0, .int .u8 0, .int .u8 0, .int .u8 0, .int .u8 0, .int .u8 0, .int .u8 0, .int .u8 0, .int .u8 0, .int .u8 0, .int .u8 0, .int .u8 0] 53)) from HM.out.alloc rfl 53 #[.bool false, .int .u8 0, .int .u8 0, .int .u8 0, .int .u8 0, .int .u8 0, .int .u8 0, .int .u8 0, .int .u8 0, .int .u8 0, .int .u8 0, .int .u8 0, .int .u8 0, .int .u8 0, .int .u8 0, .int .u8 0, .int .u8 0] (AddrM.mk false (List.replicate 16 0)).cells rfl)
  have hb3 : Below w2.heap.size w2 (w2.alloc (.cells #[.bool false, .int .u8 0, .int .u8 0, .int .u8 0, .int .u8 0, .int .u8 0, .int .u8 0, .int .u8 0, .int .u8 0, .int .u8 0, .int .u8 0, .int .u8 0, .int .u8 0, .int .u8 0, .int .u8 0, .int .u8 0, .int .u8 0] 53)) := (Below.refl _ _).alloc (Nat.le_refl _) _
  have HB3 := Lib.hid hb3
  clear hbt hb3
  go_upto_region 5 with (first | (refine wpList_build_as rfl 53 [(0, .const (.bool true))] rfl #[.bool true, .int .u8 0, .int .u8 0, .int .u8 0, .int .u8 0, .int .u8 0, .int .u8 0, .int .u8 0, .int .u8 0, .int .u8 0, .int .u8 0, .int .u8 0, .int .u8 0, .int .u8 0, .int .u8 0, .int .u8 0, .int .u8 0] ?_ ?_; exact HBT.out) | (refine wpList_store_blk rfl 53 (.tmp 5) (.tmp 16) rfl w2.heap.size (AddrM.mk true (sixIp ls 0)).cells rfl (by rfl) 53 (AddrM.mk false (List.replicate 16 0)).cells (HMZ.out.blk 0 rfl) (by kernel_rfl) rfl (AddrM.one _) ?_; intro w3 hb31 hg31))
  (try simp only [Act.put])
  have hm3 : Mem w [blkE w2.heap.size 53 (AddrM.mk true (sixIp ls 0)).cells, blkE w.heap.size 53 addr0.cells] w3 := HMZ.out.put 0 rfl _ hg31 hb31
  have hb3 : Below w2.heap.size w2 w3 := HB3.out.grown hg31 HB3.out.size (by intro q hq; injection hq with hq; omega)
  clear hb31 hg31 HB3 HMZ HBT
  replace HM := Lib.hid hm3
  have HB := Lib.hid hb3
  clear hm3 hb3
  go_wp2_with fail
  go_loopw [19] (fun i wr => ∃ j : Nat, j ≤ 8 ∧ i = .int .i64 (j : Int) ∧ Hid ((ls.take j).all hxsOk = true) ∧ Mem w [blkE w2.heap.size 53 (AddrM.mk true (sixIp ls j)).cells, blkE w.heap.size 53 addr0.cells] wr ∧ Below w2.heap.size w2 wr) (fun i _ => 8 - (intOf i).toNat)
  case atStart => exact ⟨0, by omega, rfl, Lib.hid rfl, HM.out, HB.out⟩
  case round =>
    obtain ⟨j, hj, rfl, hall, hM, hB⟩ := hrel
    replace HM := Lib.hid hM
    replace HB := Lib.hid hB
    clear hM hB
    by_cases hlt : j < 8
    · have hjl : j < ls.length := by have := HL.out; omega
      obtain ⟨s, hs⟩ : ∃ z, ls.getD j [] = z := ⟨_, rfl⟩
      have hcell : wr.cell? ⟨g, j, none⟩ = some (.string ⟨s.toArray⟩) := by
        have h := HAT.out j (.string ⟨s.toArray⟩) (by rw [List.getElem?_map, List.getElem?_eq_getElem hjl, ← hs, List.getD_eq_getElem?_getD, List.getElem?_eq_getElem hjl]; rfl)
        rw [Nat.zero_add] at h
        exact (HB.out.cell (p := ⟨g, j, none⟩) HG.out).trans h
      have hsl : s.length ≤ 100000 := HLEN.out s (by rw [← hs, List.getD_eq_getElem?_getD, List.getElem?_eq_getElem hjl]; exact List.getElem_mem _)
      have HALL := Lib.hid (show (ls.take (j + 1)).all hxsOk = hxsOk s from by rw [all_take_ls hxsOk ls j hjl, hall.out, hs, Bool.true_and])
      have HNOT := Lib.hid (fun h : hxsOk s = false => all_not (p := hxsOk) hjl (by rw [hs]; exact h))
      have hnc := hexNumber_any s (by omega) wr
      have HNC := Lib.hid hnc
      have HSET := Lib.hid (show ((sixIp ls j).set (2 * j) (UInt8.ofNat (hexN s / 256))).set (2 * j + 1) (UInt8.ofNat (hexN s % 256)) = sixIp ls (j + 1) from by rw [← hs]; exact six_set ls j hjl (by omega))
      have hjj : (0 : Int) ≤ (j : Int) := by omega
      clear hs hnc
      go_wp2_with fail
      refine HNC.out.mono ?_
      rintro e w5 (⟨hok, ⟨A, k, rfl, hrd⟩, hb⟩ | ⟨hno, rfl, hb⟩)
      rotate_left
      · have HNO := Lib.hid (show ¬ ls.all hxsOk = true from by rw [HNOT.out hno]; decide)
        replace HM := Lib.hid (HM.out.below hb)
        clear hb hcell hno
        go_wp2_with (first | (refine wpList_build_as rfl 53 [] rfl #[.bool false, .int .u8 0, .int .u8 0, .int .u8 0, .int .u8 0, .int .u8 0, .int .u8 0, .int .u8 0, .int .u8 0, .int .u8 0, .int .u8 0, .int .u8 0, .int .u8 0, .int .u8 0, .int .u8 0, .int .u8 0, .int .u8 0] ?_ ?_; kernel_rfl) | (refine wpList_store_blk rfl 53 (.tmp 2) (.tmp 31) rfl w.heap.size addr0.cells rfl (by rfl) 53 addr0.cells (HM.out.blk 1 rfl) HU0.out rfl (AddrM.one _) ?_; intro w9 hb9 hg9))
        exact bodyPost_ret (results_obj_tmp rfl _ _ w.heap.size 53 addr0.cells _ rfl hb9 Tryz.underlying53 rfl HU0.out) rfl ⟨by rw [HR.out, if_neg HNO.out]; rfl, (HM.out.put 1 rfl _ hg9 hb9).bel⟩
      · have HOK := Lib.hid hok
        replace HM := Lib.hid (HM.out.below hb)
        replace HB := Lib.hid (HB.out.trans (hb.mono HB.out.size))
        have HRD := Lib.hid hrd
        obtain ⟨p, hp⟩ : ∃ p, 2 * j = p := ⟨_, rfl⟩
        have hw1 : IntKind.i64.wrap (2 * (j : Int)) = (p : Int) := by rw [IntWalk.i64_in _ (by omega)]; omega
        have hsa := array16_from w2.heap.size p (by omega)
        have HP := Lib.hid hp
        obtain ⟨ad, rfl⟩ : ∃ ad, A = some ad := by
          obtain ⟨b, o, h, _⟩ := hrd.2 (by decide)
          exact ⟨_, h⟩
        obtain ⟨x, hx⟩ : ∃ x, UInt8.ofNat (hexN s / 256) = x := ⟨_, rfl⟩
        obtain ⟨y, hy⟩ : ∃ y, UInt8.ofNat (hexN s % 256) = y := ⟨_, rfl⟩
        rw [hx, hy] at HRD HSET
        clear hb hcell hok hrd hx hy hp
        have hmin : ([x, y].map u8v).length = Nat.min 2 (16 - p) := (Nat.min_eq_left (show 2 ≤ 16 - p by have := HP.out; omega)).symm
        have hfit : 1 + p + ([x, y].map u8v).length ≤ (AddrM.mk true (sixIp ls j)).cells.length := by
          rw [AddrM.cells_length (show (AddrM.mk true (sixIp ls j)).ok from sixIp_length ls j (by omega) hj)]
          have := HP.out
          simp only [List.length_map, List.length_cons, List.length_nil]
          omega
        go_wp2_with (refine wpList_copy_bytes _ rfl (.tmp 35) (.tmp 36) 22 22 rfl 5 Tryz.underlying22 (by kernel_rfl) w2.heap.size (1 + p) (16 - p) (16 - p) ad 2 k rfl rfl (AddrM.mk true (sixIp ls j)).cells 53 (HM.out.blk 0 rfl) ([x, y].map u8v) hmin HRD.out.src hfit (u8v_one _) ?_; intro w6 hb6 hg6)
        have hm := HM.out.put 0 rfl _ hg6 hb6
        have hcs : (AddrM.mk true (sixIp ls j)).cells.take (1 + p) ++ [x, y].map u8v ++ (AddrM.mk true (sixIp ls j)).cells.drop (1 + p + ([x, y].map u8v).length) = (AddrM.mk true (sixIp ls (j + 1))).cells := by
          rw [← HSET.out]
          rw [HP.out]
          exact six_cells _ (sixIp_length ls j (by omega) hj) p (by have := HP.out; omega) x y
        rw [hcs] at hm
        replace HM := Lib.hid hm
        replace HB := Lib.hid (HB.out.grown hg6 HB.out.size (by intro q hq; injection hq with hq; omega))
        clear hm hcs hb6 hg6
        go_wp2
        exact ⟨⟨j + 1, by omega, by go_num, Lib.hid (HALL.out.trans HOK.out), HM.out, HB.out⟩, by simp [intOf]; omega⟩
    · obtain rfl : j = 8 := by omega
      have HALL := Lib.hid (show ls.all hxsOk = true from by have h := hall.out; rwa [List.take_of_length_le (by have := HL.out; omega)] at h)
      have HE := Lib.hid (show sixIp ls 8 = ls.flatMap fun s => [UInt8.ofNat (hexN s / 256), UInt8.ofNat (hexN s % 256)] from by rw [sixIp, List.take_of_length_le (by have := HL.out; omega)]; simp)
      have hok4 : (AddrM.mk true (sixIp ls 8)).ok := sixIp_length ls 8 (by have := HL.out; omega) (by omega)
      have HU1 := Lib.hid (addr_cellsOf _ hok4)
      have HCL := Lib.hid (show addr0.cells.length = (AddrM.mk true (sixIp ls 8)).cells.length from (AddrM.cells_length addr0_ok).trans (AddrM.cells_length hok4).symm)
      obtain ⟨cz, hcz⟩ : ∃ z, (AddrM.mk true (sixIp ls 8)).cells.toArray = z := ⟨_, rfl⟩
      have HCZ := Lib.hid hcz
      clear hcz
      go_wp2_with (first | (refine wpList_load_obj rfl 53 (.tmp 5) rfl w2.heap.size 0 rfl (AddrM.mk true (sixIp ls 8)).cells (HM.out.blk 0 rfl).all _ Tryz.underlying53 rfl HU1.out ?_; rw [HCZ.out]) | (refine wpList_store_blk rfl 53 (.tmp 2) (.tmp 39) rfl w.heap.size (AddrM.mk true (sixIp ls 8)).cells rfl (by show Value.agg cz = _; rw [HCZ.out]) 53 addr0.cells (HM.out.blk 1 rfl) HU1.out HCL.out (AddrM.one _) ?_; intro w9 hb9 hg9))
      exact bodyPost_ret (results_obj_tmp rfl _ _ w.heap.size 53 (AddrM.mk true (sixIp ls 8)).cells _ rfl hb9 Tryz.underlying53 rfl HU1.out) rfl ⟨by rw [HR.out, if_pos HALL.out, ← HE.out]; rfl, (HM.out.put 1 rfl _ hg9 hb9).bel⟩
end Go.Proofs.YtcbfchkhbngpkaaGreatDoor
namespace Go.Proofs.YtcbfchkhbngpkaaGreatDoor
open Go.RowKit

set_option maxRecDepth 100000 in
set_option maxHeartbeats 4000000 in
theorem parseAddr_any (l : List UInt8) (hl : l.length ≤ 100000) (w : World) (hlv : LvCf w) :
    Calls Tryz.prog 66 #[.string ⟨l.toArray⟩] w fun e w' => e = .returned (.tuple #[.agg (addrP l).1.cells.toArray, .int .i64 ((addrP l).2 : Int)]) ∧ Below w.heap.size w w' := by
  have HLV := Lib.hid hlv
  have HCC := Lib.hid (contains_c l 58)
  have HM := Lib.hid (show Mem w [blkE w.heap.size 53 addr0.cells] (w.alloc (.cells #[.bool false, .int .u8 0, .int .u8 0, .int .u8 0, .int .u8 0, .int .u8 0, .int .u8 0, .int .u8 0, .int .u8 0, .int .u8 0, .int .u8 0, .int .u8 0, .int .u8 0, .int .u8 0, .int .u8 0, .int .u8 0, .int .u8 0] 53)) from (Mem.nil w).alloc rfl 53 #[.bool false, .int .u8 0, .int .u8 0, .int .u8 0, .int .u8 0, .int .u8 0, .int .u8 0, .int .u8 0, .int .u8 0, .int .u8 0, .int .u8 0, .int .u8 0, .int .u8 0, .int .u8 0, .int .u8 0, .int .u8 0, .int .u8 0] addr0.cells rfl)
  obtain ⟨S, hS⟩ : ∃ S : ByteArray, ⟨l.toArray⟩ = S := ⟨_, rfl⟩
  rw [hS] at HCC ⊢
  clear hlv
  go_enter Tryz.func66, Tryz.ntmps66
  go_upto_region 1 with fail
  generalize w.alloc (.cells #[.bool false, .int .u8 0, .int .u8 0, .int .u8 0, .int .u8 0, .int .u8 0, .int .u8 0, .int .u8 0, .int .u8 0, .int .u8 0, .int .u8 0, .int .u8 0, .int .u8 0, .int .u8 0, .int .u8 0, .int .u8 0, .int .u8 0] 53) = w1 at HM ⊢
  go_wp2_with fail
  refine (HCC.out _).mono ?_
  rintro e w2 ⟨rfl, hb⟩
  replace HM := Lib.hid (show Mem w [blkE w.heap.size 53 addr0.cells] w2 from HM.out.below hb)
  clear hb HCC
  by_cases hc : (58 : UInt8) ∈ l
  · rw [decide_eq_true hc]
    have hr := parseSix_any l hl (addrP l) (addrP_six l hc)
    obtain ⟨r, hrr⟩ : ∃ z, addrP l = z := ⟨_, rfl⟩
    have hok := addrP_ok l
    rw [hrr] at hr hok
    obtain ⟨ra, re⟩ := r
    have HU1 := Lib.hid (addr_cellsOf ra hok)
    have HCL := Lib.hid (show addr0.cells.length = ra.cells.length from (AddrM.cells_length addr0_ok).trans (AddrM.cells_length hok).symm)
    obtain ⟨cr, hcr⟩ : ∃ z, ra.cells.toArray = z := ⟨_, rfl⟩
    dsimp only at hr
    rw [hcr, hS] at hr
    have HPR := Lib.hid hr
    have HCR := Lib.hid hcr
    have HRR := Lib.hid hrr
    clear hr hcr hrr hok hc hS
    go_wp2_with fail
    refine (HPR.out _ (HLV.out.below HM.out.bel)).mono ?_
    rintro e w5 ⟨rfl, hb⟩
    replace HM := Lib.hid (show Mem w [blkE w.heap.size 53 addr0.cells] w5 from HM.out.below hb)
    clear hb
    go_wp2_with (refine wpList_store_blk rfl 53 (.tmp 2) (.tmp 8) rfl w.heap.size ra.cells rfl (by show Value.agg cr = _; rw [HCR.out]) 53 addr0.cells (HM.out.blk 0 rfl) HU1.out HCL.out (AddrM.one _) ?_; intro w9 hb9 hg9)
    exact bodyPost_ret (results_obj_tmp rfl _ _ w.heap.size 53 ra.cells _ rfl hb9 Tryz.underlying53 rfl HU1.out) rfl ⟨by rw [HRR.out]; rfl, (HM.out.put 0 rfl _ hg9 hb9).bel⟩
  · rw [decide_eq_false hc]
    have hr := parseFour_any l hl (addrP l) (addrP_four l hc)
    obtain ⟨r, hrr⟩ : ∃ z, addrP l = z := ⟨_, rfl⟩
    have hok := addrP_ok l
    rw [hrr] at hr hok
    obtain ⟨ra, re⟩ := r
    have HU1 := Lib.hid (addr_cellsOf ra hok)
    have HCL := Lib.hid (show addr0.cells.length = ra.cells.length from (AddrM.cells_length addr0_ok).trans (AddrM.cells_length hok).symm)
    obtain ⟨cr, hcr⟩ : ∃ z, ra.cells.toArray = z := ⟨_, rfl⟩
    dsimp only at hr
    rw [hcr, hS] at hr
    have HPR := Lib.hid hr
    have HCR := Lib.hid hcr
    have HRR := Lib.hid hrr
    clear hr hcr hrr hok hc hS
    go_wp2_with fail
    refine (HPR.out _ (HLV.out.below HM.out.bel)).mono ?_
    rintro e w5 ⟨rfl, hb⟩
    replace HM := Lib.hid (show Mem w [blkE w.heap.size 53 addr0.cells] w5 from HM.out.below hb)
    clear hb
    go_wp2_with (refine wpList_store_blk rfl 53 (.tmp 2) (.tmp 12) rfl w.heap.size ra.cells rfl (by show Value.agg cr = _; rw [HCR.out]) 53 addr0.cells (HM.out.blk 0 rfl) HU1.out HCL.out (AddrM.one _) ?_; intro w9 hb9 hg9)
    exact bodyPost_ret (results_obj_tmp rfl _ _ w.heap.size 53 ra.cells _ rfl hb9 Tryz.underlying53 rfl HU1.out) rfl ⟨by rw [HRR.out]; rfl, (HM.out.put 0 rfl _ hg9 hb9).bel⟩
end Go.Proofs.YtcbfchkhbngpkaaGreatDoor
namespace Go.Proofs.YtcbfchkhbngpkaaGreatDoor
open Go.RowKit

set_option maxRecDepth 100000 in
set_option maxHeartbeats 8000000 in
theorem parsePref_any (l : List UInt8) (hl : l.length ≤ 100000) (w : World) (hlv : LvCf w) :
    Calls Tryz.prog 39 #[.string ⟨l.toArray⟩] w fun e w' => e = .returned (.tuple #[.agg (prefC (prefP l).1.1 ((prefP l).1.2 : Int)).toArray, .int .i64 ((prefP l).2 : Int)]) ∧ Below w.heap.size w w' := by
  have HLV := Lib.hid hlv
  have HV := Lib.hid (prefP_prog l)
  have HCU := Lib.hid (fun W h => cut_c l [47] (by omega) W h)
  have HU0 := Lib.hid (show (Tryz.prog.info? 60).map (·.size) = some (prefC addr0 0).length from by kernel_rfl)
  have hcl : (Lib.cut l [47]).1.length ≤ 100000 ∧ (Lib.cut l [47]).2.1.length ≤ 100000 := by
    rcases index_at 47 l with ⟨h1, _⟩ | ⟨a, r, rfl, h2, _⟩
    · rw [cut_none h1]; exact ⟨hl, by simp⟩
    · rw [cut_some h2]; simp only [List.length_append, List.length_cons] at hl; exact ⟨by show a.length ≤ _; omega, by show r.length ≤ _; omega⟩
  obtain ⟨⟨s0, s1, fd⟩, hct⟩ : ∃ z, Lib.cut l [47] = z := ⟨_, rfl⟩
  rw [hct] at HCU HV hcl
  dsimp only at HCU HV hcl
  have HM := Lib.hid (show Mem w [blkE w.heap.size 60 (prefC addr0 0)] (w.alloc (.cells #[.bool false, .int .u8 0, .int .u8 0, .int .u8 0, .int .u8 0, .int .u8 0, .int .u8 0, .int .u8 0, .int .u8 0, .int .u8 0, .int .u8 0, .int .u8 0, .int .u8 0, .int .u8 0, .int .u8 0, .int .u8 0, .int .u8 0, .int .i64 0] 60)) from (Mem.nil w).alloc rfl 60 #[.bool false, .int .u8 0, .int .u8 0, .int .u8 0, .int .u8 0, .int .u8 0, .int .u8 0, .int .u8 0, .int .u8 0, .int .u8 0, .int .u8 0, .int .u8 0, .int .u8 0, .int .u8 0, .int .u8 0, .int .u8 0, .int .u8 0, .int .i64 0] (prefC addr0 0) rfl)
  obtain ⟨S, hS⟩ : ∃ S : ByteArray, ⟨l.toArray⟩ = S := ⟨_, rfl⟩
  rw [hS] at HCU ⊢
  have HPA := Lib.hid (fun W h => parseAddr_any s0 hcl.1 W h)
  have HPN := Lib.hid (fun W h => number_any s1 (by omega) W h)
  have hn3 := numP_lt s1 10
  have hok := addrP_ok s0
  obtain ⟨r, hr⟩ : ∃ z, addrP s0 = z := ⟨_, rfl⟩
  rw [hr] at HPA HV hok
  obtain ⟨ra, re⟩ := r
  obtain ⟨nb, hnb⟩ : ∃ z, numP s1 10 = z := ⟨_, rfl⟩
  rw [hnb] at HPN HV hn3
  obtain ⟨q, okq⟩ := nb
  dsimp only at HPA HPN HV hok hn3
  obtain ⟨cr, hcr⟩ : ∃ z, ra.cells.toArray = z := ⟨_, rfl⟩
  have hbt := pref_built ra hok (q : Int)
  obtain ⟨cpx, hcpx⟩ : ∃ z, (prefC ra (q : Int)).toArray = z := ⟨_, rfl⟩
  rw [hcr, hcpx] at hbt
  rw [hcr] at HPA
  have HBT := Lib.hid hbt
  have HCR := Lib.hid hcr
  have HCP := Lib.hid hcpx
  have HU1 := Lib.hid (addr_cellsOf ra hok)
  have HUP := Lib.hid (pref_cellsOf ra hok (q : Int))
  have hva := valid_any ra (q : Int) hok
  rw [hcpx] at hva
  have HVA := Lib.hid hva
  have HZA := Lib.hid (show addr0.cells.length = ra.cells.length from (AddrM.cells_length addr0_ok).trans (AddrM.cells_length hok).symm)
  have HZP := Lib.hid (show (prefC addr0 0).length = (prefC ra (q : Int)).length from (prefC_length addr0 addr0_ok 0).trans (prefC_length ra hok _).symm)
  have hwq : IntKind.i64.wrap (q : Int) = (q : Int) := IntWalk.i64_in _ (by omega)
  clear hcr hcpx hbt hr hnb hva hcl hct hS hlv hl
  go_enter Tryz.func39, Tryz.ntmps39
  go_upto_region 1 with fail
  generalize w.alloc (.cells #[.bool false, .int .u8 0, .int .u8 0, .int .u8 0, .int .u8 0, .int .u8 0, .int .u8 0, .int .u8 0, .int .u8 0, .int .u8 0, .int .u8 0, .int .u8 0, .int .u8 0, .int .u8 0, .int .u8 0, .int .u8 0, .int .u8 0, .int .i64 0] 60) = w1 at HM ⊢
  go_wp2_with fail
  refine (HCU.out _ (HLV.out.below HM.out.bel)).mono ?_
  rintro e w2 ⟨rfl, hb⟩
  replace HM := Lib.hid (show Mem w [blkE w.heap.size 60 (prefC addr0 0)] w2 from HM.out.below hb)
  clear hb HCU
  go_wp2_with fail
  refine (HPA.out _ (HLV.out.below HM.out.bel)).mono ?_
  rintro e w3 ⟨rfl, hb⟩
  replace HM := Lib.hid (show Mem w [blkE w.heap.size 60 (prefC addr0 0)] w3 from HM.out.below hb)
  have HMZ := Lib.hid (show Mem w [blkE w3.heap.size 53 addr0.cells, blkE w.heap.size 60 (prefC addr0 0)] (w3.alloc (.cells #[.bool false, .int .u8 0, .int .u8 0, .int .u8 0, .int .u8 0, .int .u8 0, .int .u8 0, .int .u8 0, .int .u8 0, .int .u8 0, .int .u8 0, .int .u8 0, .int .u8 0, .int .u8 0, .int .u8 0, .int .u8 0, .int .u8 0] 53)) from HM.out.alloc rfl 53 #[.bool false, .int .u8 0, .int .u8 0, .int .u8 0, .int .u8 0, .int .u8 0, .int .u8 0, .int .u8 0, .int .u8 0, .int .u8 0, .int .u8 0, .int .u8 0, .int .u8 0, .int .u8 0, .int .u8 0, .int .u8 0, .int .u8 0] addr0.cells rfl)
  clear hb HM
  go_upto_region 3 with (refine wpList_store_blk rfl 53 (.tmp 7) (.tmp 21) rfl w3.heap.size ra.cells rfl (by show Value.agg cr = _; rw [HCR.out]) 53 addr0.cells (HMZ.out.blk 0 rfl) HU1.out HZA.out (AddrM.one _) ?_; intro w4 hb4 hg4)
  (try simp only [Act.put])
  have hm4 := HMZ.out.put 0 rfl _ hg4 hb4
  clear hb4 hg4 HMZ
  generalize w3.heap.size = gA at hm4 ⊢
  have HM := Lib.hid (show Mem w [blkE gA 53 ra.cells, blkE w.heap.size 60 (prefC addr0 0)] w4 from hm4)
  clear hm4
  go_wp2_with fail
  refine (HPN.out _ (HLV.out.below HM.out.bel)).mono ?_
  rintro e w5 ⟨rfl, hb⟩
  replace HM := Lib.hid (show Mem w [blkE gA 53 ra.cells, blkE w.heap.size 60 (prefC addr0 0)] w5 from HM.out.below hb)
  clear hb
  have HMZ := Lib.hid (show Mem w [blkE w5.heap.size 60 (prefC addr0 0), blkE gA 53 ra.cells, blkE w.heap.size 60 (prefC addr0 0)] (w5.alloc (.cells #[.bool false, .int .u8 0, .int .u8 0, .int .u8 0, .int .u8 0, .int .u8 0, .int .u8 0, .int .u8 0, .int .u8 0, .int .u8 0, .int .u8 0, .int .u8 0, .int .u8 0, .int .u8 0, .int .u8 0, .int .u8 0, .int .u8 0, .int .i64 0] 60)) from HM.out.alloc rfl 60 #[.bool false, .int .u8 0, .int .u8 0, .int .u8 0, .int .u8 0, .int .u8 0, .int .u8 0, .int .u8 0, .int .u8 0, .int .u8 0, .int .u8 0, .int .u8 0, .int .u8 0, .int .u8 0, .int .u8 0, .int .u8 0, .int .u8 0, .int .i64 0] (prefC addr0 0) rfl)
  go_upto_region 5 with (first | (refine wpList_load_obj rfl 53 (.tmp 7) rfl gA 0 rfl ra.cells (HM.out.blk 0 rfl).all _ Tryz.underlying53 rfl HU1.out ?_; rw [HCR.out]) | (refine wpList_build_as rfl 60 [(0, .tmp 28), (1, .tmp 29)] rfl cpx ?_ ?_; exact HBT.out) | (refine wpList_store_blk rfl 60 (.tmp 11) (.tmp 30) rfl w5.heap.size (prefC ra (q : Int)) rfl (by show Value.agg cpx = _; rw [HCP.out]) 60 (prefC addr0 0) (HMZ.out.blk 0 rfl) HUP.out HZP.out (prefC_one _ _) ?_; intro w6 hb6 hg6))
  (try simp only [Act.put])
  have hm6 := HMZ.out.put 0 rfl _ hg6 hb6
  clear hb6 hg6 HMZ HM
  generalize w5.heap.size = gP at hm6 ⊢
  have HM := Lib.hid (show Mem w [blkE gP 60 (prefC ra (q : Int)), blkE gA 53 ra.cells, blkE w.heap.size 60 (prefC addr0 0)] w6 from hm6)
  clear hm6
  by_cases he : re = 0
  case neg =>
    replace HV := Lib.hid (HV.out.trans (if_pos (.inl he)))
    have e1 : ((re : Int) != 0) = true := by rw [bne_iff_ne]; omega
    clear he
    go_wp2_with (first | (refine wpList_build_as rfl 60 [] rfl #[.bool false, .int .u8 0, .int .u8 0, .int .u8 0, .int .u8 0, .int .u8 0, .int .u8 0, .int .u8 0, .int .u8 0, .int .u8 0, .int .u8 0, .int .u8 0, .int .u8 0, .int .u8 0, .int .u8 0, .int .u8 0, .int .u8 0, .int .i64 0] ?_ ?_; kernel_rfl) | (refine wpList_store_blk rfl 60 (.tmp 2) (.tmp 42) rfl w.heap.size (prefC addr0 0) rfl (by rfl) 60 (prefC addr0 0) (HM.out.blk 2 rfl) HU0.out rfl (prefC_one addr0 0) ?_; intro w9 hb9 hg9))
    exact bodyPost_ret (results_obj_tmp rfl _ _ w.heap.size 60 (prefC addr0 0) _ rfl hb9 Tryz.underlying60 rfl HU0.out) rfl ⟨by rw [HV.out]; rfl, (HM.out.put 2 rfl _ hg9 hb9).bel⟩
  subst he
  cases okq
  case false =>
    replace HV := Lib.hid (HV.out.trans (if_pos (.inr (.inl rfl))))
    rw [show okN false = 5 from rfl]
    go_wp2_with (first | (refine wpList_build_as rfl 60 [] rfl #[.bool false, .int .u8 0, .int .u8 0, .int .u8 0, .int .u8 0, .int .u8 0, .int .u8 0, .int .u8 0, .int .u8 0, .int .u8 0, .int .u8 0, .int .u8 0, .int .u8 0, .int .u8 0, .int .u8 0, .int .u8 0, .int .u8 0, .int .i64 0] ?_ ?_; kernel_rfl) | (refine wpList_store_blk rfl 60 (.tmp 2) (.tmp 42) rfl w.heap.size (prefC addr0 0) rfl (by rfl) 60 (prefC addr0 0) (HM.out.blk 2 rfl) HU0.out rfl (prefC_one addr0 0) ?_; intro w9 hb9 hg9))
    exact bodyPost_ret (results_obj_tmp rfl _ _ w.heap.size 60 (prefC addr0 0) _ rfl hb9 Tryz.underlying60 rfl HU0.out) rfl ⟨by rw [HV.out]; rfl, (HM.out.put 2 rfl _ hg9 hb9).bel⟩
  rw [show okN true = 0 from rfl]
  go_wp2_with (refine wpList_load_obj_g (by rfl) 60 (.tmp 11) rfl gP 0 rfl (prefC ra (q : Int)) (HM.out.blk 0 rfl).all _ Tryz.underlying60 rfl HUP.out ?_)
  rw [HCP.out]
  refine (HVA.out _).mono ?_
  rintro e w7 ⟨rfl, hb⟩
  replace HM := Lib.hid (show Mem w [blkE gP 60 (prefC ra (q : Int)), blkE gA 53 ra.cells, blkE w.heap.size 60 (prefC addr0 0)] w7 from HM.out.below hb)
  clear hb
  cases hvv : validM ra (q : Int)
  case false =>
    replace HV := Lib.hid (HV.out.trans (if_pos (.inr (.inr hvv))))
    clear hvv
    go_wp2_with (first | (refine wpList_build_as rfl 60 [] rfl #[.bool false, .int .u8 0, .int .u8 0, .int .u8 0, .int .u8 0, .int .u8 0, .int .u8 0, .int .u8 0, .int .u8 0, .int .u8 0, .int .u8 0, .int .u8 0, .int .u8 0, .int .u8 0, .int .u8 0, .int .u8 0, .int .u8 0, .int .i64 0] ?_ ?_; kernel_rfl) | (refine wpList_store_blk rfl 60 (.tmp 2) (.tmp 42) rfl w.heap.size (prefC addr0 0) rfl (by rfl) 60 (prefC addr0 0) (HM.out.blk 2 rfl) HU0.out rfl (prefC_one addr0 0) ?_; intro w9 hb9 hg9))
    exact bodyPost_ret (results_obj_tmp rfl _ _ w.heap.size 60 (prefC addr0 0) _ rfl hb9 Tryz.underlying60 rfl HU0.out) rfl ⟨by rw [HV.out]; rfl, (HM.out.put 2 rfl _ hg9 hb9).bel⟩
  replace HV := Lib.hid (HV.out.trans (if_neg (by rw [hvv]; simp)))
  clear hvv
  go_wp2_with (first | (refine wpList_load_obj rfl 60 (.tmp 11) rfl gP 0 rfl (prefC ra (q : Int)) (HM.out.blk 0 rfl).all _ Tryz.underlying60 rfl HUP.out ?_; rw [HCP.out]) | (refine wpList_store_blk rfl 60 (.tmp 2) (.tmp 43) rfl w.heap.size (prefC ra (q : Int)) rfl (by show Value.agg cpx = _; rw [HCP.out]) 60 (prefC addr0 0) (HM.out.blk 2 rfl) HUP.out HZP.out (prefC_one _ _) ?_; intro w9 hb9 hg9))
  exact bodyPost_ret (results_obj_tmp rfl _ _ w.heap.size 60 (prefC ra (q : Int)) _ rfl hb9 Tryz.underlying60 rfl HUP.out) rfl ⟨by rw [HV.out]; rfl, (HM.out.put 2 rfl _ hg9 hb9).bel⟩
end Go.Proofs.YtcbfchkhbngpkaaGreatDoor
namespace Go.Proofs.YtcbfchkhbngpkaaGreatDoor
open Go.RowKit

theorem end_built (a : AddrM) (ha : a.ok) (q : Int) : Tryz.prog.built 55 [(0, .agg a.cells.toArray), (1, .int .i64 q)] = some (a.cells ++ [Value.int .i64 q]).toArray := by
  rw [built_of 55 [17, 1] [addr0.cells, [.int .i64 0]] rfl #[(0, 17), (17, 1)] (fun parts => by kernel_rfl) (fun i h => by
    match i, h with
    | 0, _ => rfl
    | 1, _ => rfl) _ (fun p hp => by
    simp only [List.mem_cons, List.not_mem_nil, or_false] at hp
    rcases hp with rfl | rfl
    · simp [Value.cells, AddrM.cells_length ha]
    · rfl)]
  simp [Value.cells]
end Go.Proofs.YtcbfchkhbngpkaaGreatDoor
namespace Go.Proofs.YtcbfchkhbngpkaaGreatDoor
open Go.RowKit

end Go.Proofs.YtcbfchkhbngpkaaGreatDoor
namespace Go.Proofs.YtcbfchkhbngpkaaGreatDoor
open Go.RowKit

theorem cfFmtEndC : CfFmtEndC 49 := fun a h p h1 h2 w hl => fmtEnd_any a h p h1 h2 w hl
theorem cfFmtPrefC : CfFmtPrefC 40 := fun a h b h1 h2 w hl => fmtPref_any a h b h1 h2 w hl
theorem cfParsePrefC : CfParsePrefC 39 := fun l h w hl => parsePref_any l h w hl
end Go.Proofs.YtcbfchkhbngpkaaGreatDoor
namespace Go.Proofs.YtcbfchkhbngpkaaGreatDoor
open Go.RowKit

end Go.Proofs.YtcbfchkhbngpkaaGreatDoor
namespace Go.Proofs.YtcbfchkhbngpkaaGreatDoor
open Go.RowKit

end Go.Proofs.YtcbfchkhbngpkaaGreatDoor
namespace Go.Proofs.YtcbfchkhbngpkaaGreatDoor
open Go.RowKit

end Go.Proofs.YtcbfchkhbngpkaaGreatDoor
namespace Go.Proofs.YtcbfchkhbngpkaaGreatDoor
open Go.RowKit

end Go.Proofs.YtcbfchkhbngpkaaGreatDoor
namespace Go.Proofs.YtcbfchkhbngpkaaGreatDoor
open Go.Shelf
def sh_laysM173_ren : Go.Shelf.Ren := ⟨fun | 173 => 50 | 246 => 73 | 283 => 106 | 284 => 107 | 285 => 108 | 286 => 109 | 129 => 128 | 317 => 127 | 318 => 129 | 319 => 130 | 320 => 131 | 337 => 157 | 338 => 158 | n => n, fun | 2 => 2 | 3 => 3 | 9 => 9 | 4 => 4 | 171 => 139 | 0 => 0 | 53 => 90 | 37 => 22 | 5 => 5 | 173 => 142 | 212 => 161 | 51 => 162 | 20 => 20 | 213 => 163 | 46 => 86 | 232 => 23 | 233 => 207 | n => n, fun | 17 => 0 | 18 => 6 | 19 => 7 | n => n⟩
theorem sh_laysM173 : Go.Proofs.LaysM.n173 Tryz.prog sh_laysM173_ren := {
  mixed := by kernel_rfl
  f129 := Tryz.func128.trans (congrArg some (by kernel_rfl))
  f173 := Tryz.func50.trans (congrArg some (by kernel_rfl))
  f246 := Tryz.func73.trans (congrArg some (by kernel_rfl))
  f283 := Tryz.func106.trans (congrArg some (by kernel_rfl))
  f284 := Tryz.func107.trans (congrArg some (by kernel_rfl))
  f285 := Tryz.func108.trans (congrArg some (by kernel_rfl))
  f286 := Tryz.func109.trans (congrArg some (by kernel_rfl))
  f317 := Tryz.func127.trans (congrArg some (by kernel_rfl))
  f318 := Tryz.func129.trans (congrArg some (by kernel_rfl))
  f319 := Tryz.func130.trans (congrArg some (by kernel_rfl))
  f320 := Tryz.func131.trans (congrArg some (by kernel_rfl))
  f337 := Tryz.func157.trans (congrArg some (by kernel_rfl))
  f338 := Tryz.func158.trans (congrArg some (by kernel_rfl))
  t0 := Tryz.underlying0
  a0 := Tryz.isAgg0
  z0 := Tryz.sizeOf0
  v0 := Tryz.zeroValue0
  t2 := Tryz.underlying2
  a2 := Tryz.isAgg2
  z2 := Tryz.sizeOf2
  v2 := Tryz.zeroValue2
  t3 := Tryz.underlying3
  a3 := Tryz.isAgg3
  z3 := Tryz.sizeOf3
  v3 := Tryz.zeroValue3
  t4 := Tryz.underlying4
  a4 := Tryz.isAgg4
  z4 := Tryz.sizeOf4
  v4 := Tryz.zeroValue4
  t5 := Tryz.underlying5
  a5 := Tryz.isAgg5
  z5 := Tryz.sizeOf5
  v5 := Tryz.zeroValue5
  t9 := Tryz.underlying9
  a9 := Tryz.isAgg9
  z9 := Tryz.sizeOf9
  v9 := Tryz.zeroValue9
  t20 := Tryz.underlying20
  a20 := Tryz.isAgg20
  z20 := Tryz.sizeOf20
  v20 := Tryz.zeroValue20
  t37 := Tryz.underlying22
  a37 := Tryz.isAgg22
  z37 := Tryz.sizeOf22
  v37 := Tryz.zeroValue22
  t46 := Tryz.underlying86
  a46 := Tryz.isAgg86
  z46 := Tryz.sizeOf86
  v46 := Tryz.zeroValue86
  t51 := Tryz.underlying162
  a51 := Tryz.isAgg162
  z51 := Tryz.sizeOf162
  v51 := Tryz.zeroValue162
  t53 := Tryz.underlying90
  a53 := Tryz.isAgg90
  z53 := Tryz.sizeOf90
  v53 := Tryz.zeroValue90
  t171 := Tryz.underlying139
  a171 := Tryz.isAgg139
  z171 := Tryz.sizeOf139
  v171 := Tryz.zeroValue139
  t173 := Tryz.underlying142
  a173 := Tryz.isAgg142
  z173 := Tryz.sizeOf142
  v173 := Tryz.zeroValue142
  t212 := Tryz.underlying161
  a212 := Tryz.isAgg161
  z212 := Tryz.sizeOf161
  v212 := Tryz.zeroValue161
  t213 := Tryz.underlying163
  a213 := Tryz.isAgg163
  z213 := Tryz.sizeOf163
  t232 := Tryz.underlying23
  a232 := Tryz.isAgg23
  z232 := Tryz.sizeOf23
  v232 := Tryz.zeroValue23
  t233 := Tryz.underlying207
  a233 := Tryz.isAgg207
  z233 := Tryz.sizeOf207
  v233 := Tryz.zeroValue207
  g17 := by kernel_rfl
  g18 := by kernel_rfl
  g19 := by kernel_rfl
  i0 := by kernel_rfl
  i2 := by kernel_rfl
  i3 := by kernel_rfl
  i4 := by kernel_rfl
  i5 := by kernel_rfl
  i9 := by kernel_rfl
  i20 := by kernel_rfl
  i37 := by kernel_rfl
  i46 := by kernel_rfl
  i51 := by kernel_rfl
  i53 := by kernel_rfl
  i171 := by kernel_rfl
  i173 := by kernel_rfl
  i212 := by kernel_rfl
  i232 := by kernel_rfl
  i233 := by kernel_rfl
  m17 := by kernel_rfl
  m18 := by kernel_rfl
  m19 := by kernel_rfl }
open Go.RowKit Go.Sort Go.Lib in
theorem sh_strconv_FormatInt_10 (n : Int) (h0 : -9223372036854775808 ≤ n) (h1 : n ≤ 9223372036854775807) (w : World) (htab : Lib.TabIs Tryz.prog w "internal/strconv.uint64pow10" .u64 Lib.pow10Tab) :
    Calls Tryz.prog 50 #[.int .i64 n, .int .i64 10] w fun e w' => e = .returned (.string ⟨(Lib.itoa n).toArray⟩) ∧ ∃ k os, w' = grow (w.drewN k) os := Any.strconv_FormatInt_10 sh_laysM173 n h0 h1 w htab
end Go.Proofs.YtcbfchkhbngpkaaGreatDoor
namespace Go.Proofs.YtcbfchkhbngpkaaGreatDoor
open Go.RowKit

end Go.Proofs.YtcbfchkhbngpkaaGreatDoor
namespace Go.Proofs.YtcbfchkhbngpkaaGreatDoor
open Go.RowKit

/-- what a comparison of texts shows -/
theorem text_eq (S : ByteArray) (l k : List UInt8) (hS : ⟨l.toArray⟩ = S) (b : Bool) (h : decide (l = k) = b) : decide (S = ⟨k.toArray⟩) = b ∧ (S.toList == k) = b := by
  subst hS
  have e : (ByteArray.mk l.toArray = ⟨k.toArray⟩) ↔ l = k := by
    constructor
    · intro h; injection h with h; exact List.toArray_inj h
    · intro h; rw [h]
  refine ⟨?_, ?_⟩
  · rw [← h, Bool.eq_iff_iff, decide_eq_true_iff, decide_eq_true_iff]; exact e
  · rw [← h, Bool.eq_iff_iff, beq_iff_eq, decide_eq_true_iff, Lib.toList_data, mk_data]
theorem PsAt.later {base gp m m' : Nat} {W : World} {s : PsM} {line : Nat} {mv v : Value} {Bs : List Nat} (h : PsAt base gp m W s line mv v Bs) (hm : m ≤ m') : PsAt base gp m' W s line mv v Bs := ⟨h.ok, h.low, h.nd, h.nin, h.blk, h.peers, h.seen.mono hm⟩
end Go.Proofs.YtcbfchkhbngpkaaGreatDoor
namespace Go.Proofs.YtcbfchkhbngpkaaGreatDoor
open Go.RowKit

set_option maxRecDepth 100000 in
set_option maxHeartbeats 8000000 in
theorem wrongPrefix_any (q : AddrM × Int) (hq : okP q) (w : World) :
    Calls Tryz.prog 61 #[.agg (prefC q.1 q.2).toArray] w fun e w' => e = .returned (.bool (!validM q.1 q.2)) ∧ Below w.heap.size w w' := by
  have HQ := Lib.hid hq
  have HVC := Lib.hid (fun W => valid_any q.1 q.2 hq.1 W)
  obtain ⟨cx, hcx⟩ : ∃ z, (prefC q.1 q.2).toArray = z := ⟨_, rfl⟩
  rw [hcx]
  obtain ⟨y, hy⟩ : ∃ y, validM q.1 q.2 = y := ⟨_, rfl⟩
  rw [hy]
  have HY := Lib.hid hy
  have HCX := Lib.hid hcx
  have HM := Lib.hid ((Lows.nil w).alloc 60 cx (prefC q.1 q.2) hcx.symm)
  clear hq hcx hy
  go_enter Tryz.func61, Tryz.ntmps61
  go_upto_region 1 with fail
  generalize w.alloc (.cells cx 60) = w1 at HM ⊢
  go_wp2_with ((with_reducible refine at_op (.load 60 (.tmp 1)) rfl ?_); refine wpList_load_obj rfl 60 (.tmp 1) rfl w.heap.size 0 rfl (prefC q.1 q.2) (HM.out.blk 0 rfl).all _ Tryz.underlying60 rfl (pref_cellsOf' q.1 HQ.out.1 q.2) ?_; rw [HCX.out])
  have hcall := HVC.out w1
  rw [HCX.out, HY.out] at hcall
  refine hcall.mono ?_
  rintro e w2 ⟨rfl, hb⟩
  have HB2 := Lib.hid (HM.out.bel.trans (hb.mono HM.out.size))
  clear hb HM HVC hcall
  go_wp2
  go_ret
  exact ⟨rfl, HB2.out⟩
set_option maxRecDepth 100000 in
set_option maxHeartbeats 8000000 in
theorem validKeep_any (n : Int) (w : World) :
    Calls Tryz.prog 59 #[.int .i64 n] w fun e w' => e = .returned (.bool (rightK n)) ∧ w' = w := by
  by_cases h0 : n = 0
  · subst h0
    go_enter Tryz.func59, Tryz.ntmps59
    go_wp2
    go_ret
    exact ⟨rfl, rfl⟩
  · have d0 : (n == 0) = false := beq_eq_false_iff_ne.2 h0
    by_cases h1 : 1000 ≤ n
    · have d1 : decide ((1000 : Int) ≤ n) = true := decide_eq_true h1
      by_cases h2 : n ≤ 1073741824
      · have d2 : decide (n ≤ 1073741824) = true := decide_eq_true h2
        have HR := Lib.hid (show rightK n = true from by rw [rightK, d0, d1, d2]; rfl)
        go_enter Tryz.func59, Tryz.ntmps59
        go_wp2
        go_ret
        exact ⟨by rw [HR.out]; rfl, rfl⟩
      · have d2 : decide (n ≤ 1073741824) = false := decide_eq_false h2
        have HR := Lib.hid (show rightK n = false from by rw [rightK, d0, d1, d2]; rfl)
        go_enter Tryz.func59, Tryz.ntmps59
        go_wp2
        go_ret
        exact ⟨by rw [HR.out]; rfl, rfl⟩
    · have d1 : decide ((1000 : Int) ≤ n) = false := decide_eq_false h1
      have HR := Lib.hid (show rightK n = false from by rw [rightK, d0, d1]; rfl)
      go_enter Tryz.func59, Tryz.ntmps59
      go_wp2
      go_ret
      exact ⟨by rw [HR.out]; rfl, rfl⟩
set_option maxRecDepth 100000 in
set_option maxHeartbeats 8000000 in
theorem prefFind_any (A : Option Addr) (n c : Nat) (cs : Nat → List Value) (p : Nat → Bool) (F : Nat) (hn : n ≤ 1000000) (hE : ∀ (args : Array Value) (W : World), (callFunc F args).run Tryz.prog W = .ok (.enter F args) W) (w : World)
    (hA : ∀ j, j < n → ∃ b off, A = some ⟨b, off, none⟩ ∧ (cs j).length = 18 ∧ b < w.heap.size ∧ At w b (off + j * 18) (cs j))
    (hf : ∀ j, j < n → ∀ W, Below w.heap.size w W → Calls Tryz.prog F #[.agg (cs j).toArray] W fun e W' => e = .returned (.bool (p j)) ∧ Below W.heap.size W W') :
    Calls Tryz.prog 81 #[.slice A n c, .func (.func F) #[] #[]] w fun e w' => e = .returned (.int .i64 (idxN p n)) ∧ Below w.heap.size w w' := by
  have HA := Lib.hid hA
  have HF := Lib.hid hf
  clear hA hf
  go_enter Tryz.func81, Tryz.ntmps81
  go_wp2_with fail
  go_loopw [8] (fun i wr => ∃ j : Nat, j ≤ n ∧ i = .int .i64 (j : Int) ∧ Below w.heap.size w wr ∧ ∀ q, q < j → p q = false) (fun i _ => n - (intOf i).toNat)
  case atStart => exact ⟨0, Nat.zero_le _, rfl, Below.refl _ _, fun q h => absurd h (Nat.not_lt_zero _)⟩
  case round =>
    obtain ⟨j, hj, rfl, hW, hno⟩ := hrel
    have HW := Lib.hid hW
    have HNO := Lib.hid hno
    clear hW hno
    by_cases hjn : j < n
    · have d1 : decide ((j : Int) < (n : Int)) = true := by simp; omega
      obtain ⟨b, off, rfl, hl, hbl, hat⟩ := HA.out j hjn
      have HLA := Lib.hid (show At wr b (off + j * 18) (cs j) from hat.mono HW.out hbl)
      have HU := Lib.hid (show (Tryz.prog.info? 60).map (·.size) = some (cs j).length from by rw [hl]; kernel_rfl)
      have hcall := HF.out j hjn wr HW.out
      obtain ⟨oc, hoc⟩ : ∃ z, (cs j).toArray = z := ⟨_, rfl⟩
      rw [hoc] at hcall
      obtain ⟨y, hy⟩ : ∃ y, p j = y := ⟨_, rfl⟩
      rw [hy] at hcall
      have HOC := Lib.hid hoc
      have HC := Lib.hid hcall
      have HY := Lib.hid hy
      clear hat hl hbl hcall hoc hy
      go_wp2_with ((with_reducible refine at_op (.load 60 (.tmp 14)) rfl ?_); refine wpList_load_obj rfl 60 (.tmp 14) rfl b _ rfl (cs j) HLA.out _ Tryz.underlying60 rfl HU.out ?_; rw [HOC.out])
      refine HC.out.mono ?_
      rintro e w2 ⟨rfl, hb⟩
      have HW2 := Lib.hid (HW.out.trans (hb.mono HW.out.size))
      clear hb HW HC HLA
      cases y with
      | true =>
        go_wp2
        go_ret
        exact ⟨by rw [idxN_some hjn HY.out HNO.out]; rfl, HW2.out⟩
      | false =>
        go_wp2_with fail
        go_roundw
        case rel => exact ⟨j + 1, by omega, by go_num, HW2.out, fun q hq => by
          rcases Nat.lt_or_ge q j with h | h
          · exact HNO.out q h
          · obtain rfl : q = j := by omega
            exact HY.out⟩
        case measure => simp [intOf]; omega
    · obtain rfl : j = n := by omega
      have d1 : decide ((j : Int) < (j : Int)) = false := by simp
      have HF2 := Lib.hid HW.out
      have HX := Lib.hid (idxN_none HNO.out)
      clear HW HNO
      go_wp2
      go_ret
      exact ⟨by rw [HX.out]; rfl, HF2.out⟩
set_option maxRecDepth 100000 in
set_option maxHeartbeats 8000000 in
theorem prefAny_any (A : Option Addr) (n c : Nat) (cs : Nat → List Value) (p : Nat → Bool) (F : Nat) (hn : n ≤ 1000000) (hE : ∀ (args : Array Value) (W : World), (callFunc F args).run Tryz.prog W = .ok (.enter F args) W) (w : World)
    (hA : ∀ j, j < n → ∃ b off, A = some ⟨b, off, none⟩ ∧ (cs j).length = 18 ∧ b < w.heap.size ∧ At w b (off + j * 18) (cs j))
    (hf : ∀ j, j < n → ∀ W, Below w.heap.size w W → Calls Tryz.prog F #[.agg (cs j).toArray] W fun e W' => e = .returned (.bool (p j)) ∧ Below W.heap.size W W') :
    Calls Tryz.prog 60 #[.slice A n c, .func (.func F) #[] #[]] w fun e w' => e = .returned (.bool ((List.range n).any p)) ∧ Below w.heap.size w w' := by
  have HI := Lib.hid (prefFind_any A n c cs p F hn hE w hA hf)
  have hge := idxN_ge p n
  obtain ⟨q, hq⟩ : ∃ q, idxN p n = q := ⟨_, rfl⟩
  obtain ⟨y, hy⟩ : ∃ y, (List.range n).any p = y := ⟨_, rfl⟩
  rw [hq] at HI
  rw [hq, hy] at hge
  rw [hy]
  have HGE := Lib.hid hge
  clear hA hf hge hq hy
  go_enter Tryz.func60, Tryz.ntmps60
  go_wp2_with fail
  refine HI.out.mono ?_
  rintro e w2 ⟨rfl, hb⟩
  have HB := Lib.hid hb
  have hd : decide (q ≥ 0) = y := HGE.out
  clear hb HI
  go_wp2
  go_ret
  exact ⟨by first | rfl | rw [← HGE.out]; rfl, HB.out⟩
set_option maxRecDepth 100000 in
set_option maxHeartbeats 8000000 in
theorem peerFind_any (A : Option Addr) (n c : Nat) (cs : Nat → List Value) (p : Nat → Bool) (F : Nat) (hn : n ≤ 1000000) (hE : ∀ (args : Array Value) (W : World), (callFunc F args).run Tryz.prog W = .ok (.enter F args) W) (w : World)
    (hA : ∀ j, j < n → ∃ b off, A = some ⟨b, off, none⟩ ∧ (cs j).length = 85 ∧ b < w.heap.size ∧ At w b (off + j * 85) (cs j))
    (hf : ∀ j, j < n → ∀ W, Below w.heap.size w W → Calls Tryz.prog F #[.agg (cs j).toArray] W fun e W' => e = .returned (.bool (p j)) ∧ Below W.heap.size W W') :
    Calls Tryz.prog 57 #[.slice A n c, .func (.func F) #[] #[]] w fun e w' => e = .returned (.int .i64 (idxN p n)) ∧ Below w.heap.size w w' := by
  have HA := Lib.hid hA
  have HF := Lib.hid hf
  clear hA hf
  go_enter Tryz.func57, Tryz.ntmps57
  go_wp2_with fail
  go_loopw [8] (fun i wr => ∃ j : Nat, j ≤ n ∧ i = .int .i64 (j : Int) ∧ Below w.heap.size w wr ∧ ∀ q, q < j → p q = false) (fun i _ => n - (intOf i).toNat)
  case atStart => exact ⟨0, Nat.zero_le _, rfl, Below.refl _ _, fun q h => absurd h (Nat.not_lt_zero _)⟩
  case round =>
    obtain ⟨j, hj, rfl, hW, hno⟩ := hrel
    have HW := Lib.hid hW
    have HNO := Lib.hid hno
    clear hW hno
    by_cases hjn : j < n
    · have d1 : decide ((j : Int) < (n : Int)) = true := by simp; omega
      obtain ⟨b, off, rfl, hl, hbl, hat⟩ := HA.out j hjn
      have HLA := Lib.hid (show At wr b (off + j * 85) (cs j) from hat.mono HW.out hbl)
      have HU := Lib.hid (show (Tryz.prog.info? 57).map (·.size) = some (cs j).length from by rw [hl]; kernel_rfl)
      have hcall := HF.out j hjn wr HW.out
      obtain ⟨oc, hoc⟩ : ∃ z, (cs j).toArray = z := ⟨_, rfl⟩
      rw [hoc] at hcall
      obtain ⟨y, hy⟩ : ∃ y, p j = y := ⟨_, rfl⟩
      rw [hy] at hcall
      have HOC := Lib.hid hoc
      have HC := Lib.hid hcall
      have HY := Lib.hid hy
      clear hat hl hbl hcall hoc hy
      go_wp2_with ((with_reducible refine at_op (.load 57 (.tmp 14)) rfl ?_); refine wpList_load_obj rfl 57 (.tmp 14) rfl b _ rfl (cs j) HLA.out _ Tryz.underlying57 rfl HU.out ?_; rw [HOC.out])
      refine HC.out.mono ?_
      rintro e w2 ⟨rfl, hb⟩
      have HW2 := Lib.hid (HW.out.trans (hb.mono HW.out.size))
      clear hb HW HC HLA
      cases y with
      | true =>
        go_wp2
        go_ret
        exact ⟨by rw [idxN_some hjn HY.out HNO.out]; rfl, HW2.out⟩
      | false =>
        go_wp2_with fail
        go_roundw
        case rel => exact ⟨j + 1, by omega, by go_num, HW2.out, fun q hq => by
          rcases Nat.lt_or_ge q j with h | h
          · exact HNO.out q h
          · obtain rfl : q = j := by omega
            exact HY.out⟩
        case measure => simp [intOf]; omega
    · obtain rfl : j = n := by omega
      have d1 : decide ((j : Int) < (j : Int)) = false := by simp
      have HF2 := Lib.hid HW.out
      have HX := Lib.hid (idxN_none HNO.out)
      clear HW HNO
      go_wp2
      go_ret
      exact ⟨by rw [HX.out]; rfl, HF2.out⟩
set_option maxRecDepth 100000 in
set_option maxHeartbeats 8000000 in
theorem peerAny_any (A : Option Addr) (n c : Nat) (cs : Nat → List Value) (p : Nat → Bool) (F : Nat) (hn : n ≤ 1000000) (hE : ∀ (args : Array Value) (W : World), (callFunc F args).run Tryz.prog W = .ok (.enter F args) W) (w : World)
    (hA : ∀ j, j < n → ∃ b off, A = some ⟨b, off, none⟩ ∧ (cs j).length = 85 ∧ b < w.heap.size ∧ At w b (off + j * 85) (cs j))
    (hf : ∀ j, j < n → ∀ W, Below w.heap.size w W → Calls Tryz.prog F #[.agg (cs j).toArray] W fun e W' => e = .returned (.bool (p j)) ∧ Below W.heap.size W W') :
    Calls Tryz.prog 32 #[.slice A n c, .func (.func F) #[] #[]] w fun e w' => e = .returned (.bool ((List.range n).any p)) ∧ Below w.heap.size w w' := by
  have HI := Lib.hid (peerFind_any A n c cs p F hn hE w hA hf)
  have hge := idxN_ge p n
  obtain ⟨q, hq⟩ : ∃ q, idxN p n = q := ⟨_, rfl⟩
  obtain ⟨y, hy⟩ : ∃ y, (List.range n).any p = y := ⟨_, rfl⟩
  rw [hq] at HI
  rw [hq, hy] at hge
  rw [hy]
  have HGE := Lib.hid hge
  clear hA hf hge hq hy
  go_enter Tryz.func32, Tryz.ntmps32
  go_wp2_with fail
  refine HI.out.mono ?_
  rintro e w2 ⟨rfl, hb⟩
  have HB := Lib.hid hb
  have hd : decide (q ≥ 0) = y := HGE.out
  clear hb HI
  go_wp2
  go_ret
  exact ⟨by first | rfl | rw [← HGE.out]; rfl, HB.out⟩
end Go.Proofs.YtcbfchkhbngpkaaGreatDoor
namespace Go.Proofs.YtcbfchkhbngpkaaGreatDoor
open Go.RowKit

theorem end_lits (D : Nat) (a : AddrM) (h : a.ok) (q : Int) (hq : inI64 q) : LitsAt Tryz.prog (D + 4) 55 (prefC a q) := by
  refine lits_struct Tryz.underlying55 (prefC a q) ?_ (by simp) ?_
  · rw [prefC_length a h q]; kernel_rfl
  · intro f hf
    simp only [List.mem_cons, List.not_mem_nil, or_false] at hf
    rcases hf with rfl | rfl
    · have e : ((prefC a q).drop 0).take (Tryz.prog.cellsOf 53) = a.cells := by
        rw [show Tryz.prog.cellsOf 53 = 17 by kernel_rfl]
        exact prefC_addr a h q
      exact e ▸ addr_lits D _ h
    · have e : ((prefC a q).drop 17).take (Tryz.prog.cellsOf 3) = [.int .i64 q] := by
        rw [show Tryz.prog.cellsOf 3 = 1 by kernel_rfl, prefC, List.drop_left' (AddrM.cells_length h)]; rfl
      exact e ▸ lits_int Tryz.underlying3 _ ⟨by simp [IntKind.min, IntKind.signed, IntKind.bits]; exact hq.1, by simp [IntKind.max, IntKind.signed, IntKind.bits]; exact hq.2⟩
theorem end_eqd (a b : AddrM) (i j : Int) (ha : a.ok) (hb : b.ok) (hi : inI64 i) (hj : inI64 j) (w : World) : (Op.equalIn 10000 55 (.agg (prefC a i).toArray) (.agg (prefC b j).toArray)).run Tryz.prog w = .ok (decide (a = b ∧ i = j)) w :=
  eq_obj 7 4 55 (by omega) (by kernel_rfl) (by kernel_rfl) (prefC a i) (prefC b j) (end_lits 0 a ha i hi) (end_lits 0 b hb j hj) _ Tryz.underlying55 rfl (by rw [prefC_length a ha]; kernel_rfl) (by rw [prefC_length b hb]; kernel_rfl) _ (by rw [decide_eq_true_iff, prefC_inj ha hb]) w
theorem peer_has {w : World} {g off : Nat} {p : PeerM} {v : Value} (h : At w g off (p.cells v)) (hp : p.ok) : w.cell? ⟨g, off + 64, none⟩ = some (.bool p.hasE) := h 64 _ (by
  rw [PeerM.cells, List.getElem?_append_right (by rw [List.length_map, hp.1]; decide), List.length_map, hp.1, List.getElem?_append_right (by rw [List.length_map, hp.2.1]; decide), List.length_map, hp.2.1]; rfl)
theorem peer_end {w : World} {g off : Nat} {p : PeerM} {v : Value} (h : At w g off (p.cells v)) (hp : p.ok) : At w g (off + 65) (prefC p.ea p.ep) := fun j u hj => by
  rw [Nat.add_assoc]
  refine h (65 + j) u ?_
  rw [PeerM.cells, List.getElem?_append_right (by rw [List.length_map, hp.1]; omega), List.length_map, hp.1, List.getElem?_append_right (by rw [List.length_map, hp.2.1]; omega), List.length_map, hp.2.1, show 65 + j - 32 - 32 = j + 1 by omega, List.getElem?_cons_succ, List.getElem?_append_left (List.getElem?_eq_some_iff.1 hj).1]
  exact hj
theorem peer_keep {w : World} {g off : Nat} {p : PeerM} {v : Value} (h : At w g off (p.cells v)) (hp : p.ok) : w.cell? ⟨g, off + 83, none⟩ = some (.int .i64 p.keep) := h 83 _ (by
  rw [PeerM.cells, List.getElem?_append_right (by rw [List.length_map, hp.1]; decide), List.length_map, hp.1, List.getElem?_append_right (by rw [List.length_map, hp.2.1]; decide), List.length_map, hp.2.1, show 83 - 32 - 32 = 18 + 1 from rfl, List.getElem?_cons_succ, List.getElem?_append_right (by rw [prefC_length p.ea hp.2.2.1]; decide), prefC_length p.ea hp.2.2.1]; rfl)
set_option maxRecDepth 100000 in
set_option maxHeartbeats 8000000 in
theorem validEnd_any (p : PeerM) (v : Value) (hp : p.ok) (w : World) (hlv : LvCf w) :
    Calls Tryz.prog 58 #[.agg (p.cells v).toArray] w fun e w' => e = .returned (.bool (rightE p)) ∧ Below w.heap.size w w' := by
  have HP := Lib.hid hp
  obtain ⟨cx, hcx⟩ : ∃ z, (p.cells v).toArray = z := ⟨_, rfl⟩
  rw [hcx]
  have HM := Lib.hid ((Lows.nil w).alloc 57 cx (p.cells v) hcx.symm)
  have HFE := Lib.hid (fun W (hb : Below w.heap.size w W) => fmtEnd_any p.ea hp.2.2.1 p.ep hp.2.2.2.1.1 hp.2.2.2.1.2 W (hlv.below hb))
  clear hp hcx hlv
  obtain ⟨ce, hce⟩ : ∃ z, (prefC p.ea p.ep).toArray = z := ⟨_, rfl⟩
  have HCE := Lib.hid hce
  clear hce
  obtain ⟨g, hg⟩ : ∃ g, w.heap.size = g := ⟨_, rfl⟩
  have HG := Lib.hid hg
  have HM2 := Lib.hid (show Lows w [blkL g 57 (p.cells v)] (w.alloc (.cells cx 57)) from by have h := HM.out; rwa [hg] at h)
  have fb := peer_has (HM2.out.blk 0 rfl).all HP.out
  obtain ⟨u, hu⟩ : ∃ u, p.hasE = u := ⟨_, rfl⟩
  rw [hu] at fb
  go_enter Tryz.func58, Tryz.ntmps58
  go_upto_region 1 with fail
  generalize w.alloc (.cells cx 57) = w1 at HM2 fb ⊢
  clear HM hg
  cases u with
  | true =>
    have HR := Lib.hid (show rightE p = !(endT p.ea p.ep).isEmpty from by rw [rightE, hu]; rfl)
    clear hu
    go_upto_region 2 with fail
    clear fb
    go_wp2_with ((with_reducible refine at_op (.load 55 (.tmp 5)) rfl ?_); refine wpList_load_obj rfl 55 (.tmp 5) rfl g _ rfl _ (peer_end (HM2.out.blk 0 rfl).all HP.out) _ Tryz.underlying55 rfl (end_cellsOf p.ea HP.out.2.2.1 p.ep) ?_; rw [HCE.out])
    have hcall := HFE.out w1 HM2.out.bel
    rw [HCE.out] at hcall
    obtain ⟨t, ht⟩ : ∃ t, endT p.ea p.ep = t := ⟨_, rfl⟩
    rw [ht] at hcall HR
    obtain ⟨TT, hT⟩ : ∃ S : ByteArray, ⟨t.toArray⟩ = S := ⟨_, rfl⟩
    rw [hT] at hcall
    obtain ⟨q2, q3⟩ := text_eq TT t [] hT _ rfl
    obtain ⟨y, hy⟩ : ∃ y, decide (t = []) = y := ⟨_, rfl⟩
    rw [hy] at q2 q3
    have HRY := Lib.hid (show rightE p = !y from by rw [HR.out, ← hy]; cases t <;> rfl)
    refine hcall.mono ?_
    rintro e w2 ⟨rfl, hb⟩
    have HB2 := Lib.hid (HM2.out.bel.trans (hb.mono HM2.out.size))
    clear hb HM2 HFE hcall HR hy hT ht
    go_wp2
    go_ret
    exact ⟨by rw [HRY.out]; rfl, HB2.out⟩
  | false =>
    have HR := Lib.hid (show rightE p = decide (p.ea = addr0 ∧ p.ep = 0) from by rw [rightE, hu]; rfl)
    have heq := fun W => end_eqd p.ea addr0 p.ep 0 HP.out.2.2.1 addr0_ok HP.out.2.2.2.1 ⟨by decide, by decide⟩ W
    rw [HCE.out, ← HR.out] at heq
    obtain ⟨y, hy⟩ : ∃ y, rightE p = y := ⟨_, rfl⟩
    simp only [hy] at heq
    have HY := Lib.hid hy
    have HEQ := Lib.hid heq
    clear hu heq hy
    go_upto_region 3 with fail
    clear fb
    go_wp2_with (first | ((with_reducible refine at_op (.load 55 (.tmp 9)) rfl ?_); refine wpList_load_obj rfl 55 (.tmp 9) rfl g _ rfl _ (peer_end (HM2.out.blk 0 rfl).all HP.out) _ Tryz.underlying55 rfl (end_cellsOf p.ea HP.out.2.2.1 p.ep) ?_; rw [HCE.out]) | (refine wpList_build_as rfl 55 [] rfl (prefC addr0 0).toArray ?_ ?_; kernel_rfl) | (refine wpList_eql_agg (by rfl) 55 _ 10 11 rfl ce (prefC addr0 0).toArray y rfl rfl end_noguard (HEQ.out _) ?_))
    go_ret
    exact ⟨by rw [HY.out]; rfl, HM2.out.bel⟩
set_option maxRecDepth 100000 in
set_option maxHeartbeats 8000000 in
theorem wrongPeer_any (p : PeerM) (A : Option Addr) (c : Nat) (hp : p.ok) (hn : p.al.length ≤ 1000000) (w : World) (hlv : LvCf w) (hr : PfRd w w.heap.size A p.al.length p.al) :
    Calls Tryz.prog 33 #[.agg (p.cells (.slice A p.al.length c)).toArray] w fun e w' => e = .returned (.bool (!rightP p)) ∧ Below w.heap.size w w' := by
  have HP := Lib.hid hp
  have hany := fun W (hb : Below w.heap.size w W) => prefAny_any A p.al.length c (fun j => match p.al[j]? with | none => [] | some q => prefC q.1 q.2) (fun j => p.al[j]?.any fun q => !validM q.1 q.2) 61 hn (enters_of Tryz.func61 (by kernel_rfl) rfl) W (fun j hj => by
    obtain ⟨b, off, rfl⟩ := hr.1.addr (by omega)
    have hq : p.al[j]? = some p.al[j] := List.getElem?_eq_getElem hj
    have hat := ((hr.below hb).mono hb.size).at j _ hq
    refine ⟨b, off, rfl, ?_⟩
    simp only [hq]
    exact ⟨prefC_length _ (hr.ok hq).1 _, hat.1, hat.2⟩) (fun j hj W' hb' => by
    have hq : p.al[j]? = some p.al[j] := List.getElem?_eq_getElem hj
    simp only [hq, Option.any_some]
    exact wrongPrefix_any _ (hr.ok hq) W')
  have hsum : (List.range p.al.length).any (fun j => p.al[j]?.any fun q => !validM q.1 q.2) = !p.al.all fun q => validM q.1 q.2 := by
    rw [Bool.eq_iff_iff, List.any_eq_true, Bool.not_eq_true', ← Bool.not_eq_true, List.all_eq_true]
    constructor
    · rintro ⟨j, hj, h⟩ hall
      have hq : p.al[j]? = some (p.al[j]'(List.mem_range.1 hj)) := List.getElem?_eq_getElem _
      rw [hq, Option.any_some, hall _ (List.getElem_mem _)] at h
      cases h
    · intro h
      rw [Classical.not_forall] at h
      obtain ⟨q, hq⟩ := h
      rw [Classical.not_imp] at hq
      obtain ⟨j, hj, e⟩ := List.getElem_of_mem hq.1
      refine ⟨j, List.mem_range.2 hj, ?_⟩
      rw [List.getElem?_eq_getElem hj, Option.any_some, e]
      simpa using hq.2
  obtain ⟨z, hz⟩ : ∃ z, (p.al.all fun q => validM q.1 q.2) = z := ⟨_, rfl⟩
  rw [hsum, hz] at hany
  have HANY := Lib.hid hany
  have hve := fun W (hb : Below w.heap.size w W) => validEnd_any p (.slice A p.al.length c) hp W (hlv.below hb)
  have hrp : rightP p = (rightE p && rightK p.keep && z) := by rw [rightP, hz]
  obtain ⟨x, hx⟩ : ∃ x, rightE p = x := ⟨_, rfl⟩
  obtain ⟨y, hy⟩ : ∃ y, rightK p.keep = y := ⟨_, rfl⟩
  rw [hx] at hve
  have hvk := fun W => validKeep_any p.keep W
  rw [hy] at hvk
  rw [hrp, hx, hy]
  obtain ⟨cx, hcx⟩ : ∃ z, (p.cells (.slice A p.al.length c)).toArray = z := ⟨_, rfl⟩
  rw [hcx] at hve ⊢
  have HVE := Lib.hid hve
  have HVK := Lib.hid hvk
  have HCX := Lib.hid hcx
  have HM := Lib.hid ((Lows.nil w).alloc 57 cx (p.cells (.slice A p.al.length c)) hcx.symm)
  clear hp hn hlv hr hany hsum hz hve hvk hrp hx hy hcx
  obtain ⟨n, hn⟩ : ∃ n, p.al.length = n := ⟨_, rfl⟩
  rw [hn] at HANY HM HCX
  obtain ⟨g, hg⟩ : ∃ g, w.heap.size = g := ⟨_, rfl⟩
  have HM2 := Lib.hid (show Lows w [blkL g 57 (p.cells (.slice A n c))] (w.alloc (.cells cx 57)) from by have h := HM.out; rwa [hg] at h)
  go_enter Tryz.func33, Tryz.ntmps33
  go_upto_region 1 with fail
  generalize w.alloc (.cells cx 57) = w1 at HM2 ⊢
  clear HM hg
  go_wp2_with ((with_reducible refine at_op (.load 57 (.tmp 1)) rfl ?_); refine wpList_load_obj rfl 57 (.tmp 1) rfl g 0 rfl _ (HM2.out.blk 0 rfl).all _ Tryz.underlying57 rfl (peer_cellsOf p HP.out _) ?_; rw [HCX.out])
  refine (HVE.out w1 HM2.out.bel).mono ?_
  rintro e w2 ⟨rfl, hb⟩
  replace HM2 := Lib.hid (HM2.out.below hb)
  clear hb HVE
  cases x with
  | false =>
    go_wp2
    go_ret
    exact ⟨rfl, HM2.out.bel⟩
  | true =>
    have fk := peer_keep (HM2.out.blk 0 rfl).all HP.out
    have fa := peer_al (HM2.out.blk 0 rfl) HP.out
    go_wp2_with fail
    refine (HVK.out _).mono ?_
    rintro e w3 ⟨rfl, rfl⟩
    cases y with
    | false =>
      go_wp2
      go_ret
      exact ⟨rfl, HM2.out.bel⟩
    | true =>
      go_wp2_with fail
      refine (HANY.out w3 HM2.out.bel).mono ?_
      rintro e w4 ⟨rfl, hb⟩
      have HB4 := Lib.hid (HM2.out.bel.trans (hb.mono HM2.out.size))
      clear hb HM2 HANY fk fa
      go_wp2
      go_ret
      exact ⟨by simp, HB4.out⟩
end Go.Proofs.YtcbfchkhbngpkaaGreatDoor
namespace Go.Proofs.YtcbfchkhbngpkaaGreatDoor
open Go.RowKit

theorem conf_port {w : World} {g off : Nat} {c : ConfM} {v : Value} (h : At w g off (c.cells v)) (hc : c.ok) : w.cell? ⟨g, off + 32, none⟩ = some (.int .i64 c.port) := h 32 _ (by
  rw [ConfM.cells, List.getElem?_append_right (by rw [List.length_map, hc.1]; decide), List.length_map, hc.1]; rfl)
theorem conf_peers {w : World} {g off : Nat} {c : ConfM} {v : Value} (h : At w g off (c.cells v)) (hc : c.ok) : w.cell? ⟨g, off + 33, none⟩ = some v := h 33 _ (by
  rw [ConfM.cells, List.getElem?_append_right (by rw [List.length_map, hc.1]; decide), List.length_map, hc.1]; rfl)
theorem conf_one (c : ConfM) (A : Option Addr) (n cap : Nat) : ∀ v ∈ c.cells (.slice A n cap), v.oneCell' = true := by
  intro v hv
  simp only [ConfM.cells, List.mem_append, List.mem_cons, List.mem_map, List.not_mem_nil, or_false] at hv
  rcases hv with ⟨x, _, rfl⟩ | rfl | rfl <;> rfl
theorem conf_cellsOf (c : ConfM) (h : c.ok) (v : Value) : (Tryz.prog.info? 27).map (·.size) = some (c.cells v).length := by
  rw [ConfM.cells_length h]; kernel_rfl
theorem any_not_all {α : Type} (l : List α) (f : α → Bool) : (List.range l.length).any (fun j => l[j]?.any fun q => !f q) = !l.all f := by
  rw [Bool.eq_iff_iff, List.any_eq_true, Bool.not_eq_true', ← Bool.not_eq_true, List.all_eq_true]
  constructor
  · rintro ⟨j, hj, h⟩ hall
    have hq : l[j]? = some (l[j]'(List.mem_range.1 hj)) := List.getElem?_eq_getElem _
    rw [hq, Option.any_some, hall _ (List.getElem_mem _)] at h
    cases h
  · intro h
    rw [Classical.not_forall] at h
    obtain ⟨q, hq⟩ := h
    rw [Classical.not_imp] at hq
    obtain ⟨j, hj, e⟩ := List.getElem_of_mem hq.1
    refine ⟨j, List.mem_range.2 hj, ?_⟩
    rw [List.getElem?_eq_getElem hj, Option.any_some, e]
    simpa using hq.2
set_option maxRecDepth 100000 in
set_option maxHeartbeats 8000000 in
theorem validate_any (c : ConfM) (A : Option Addr) (n cap : Nat) (w : World) (hc : c.ok) (hr : PeRd w w.heap.size A n c.peers) (hn : n ≤ 1000) (ha : ∀ p ∈ c.peers, p.al.length ≤ 1000) (hlv : LvCf w) :
    Calls Tryz.prog 11 #[.agg (c.cells (.slice A n cap)).toArray] w fun e w' => e = .returned (.int .i64 (validE c : Int)) ∧ Below w.heap.size w w' := by
  have hlen := hr.len
  have hco := fun W (hb : Below w.heap.size w W) => collect_any A n cap c.peers W ((hr.below hb).mono hb.size) hn ha
  have hfi : ∀ W, Below w.heap.size w W → Calls Tryz.prog 32 #[.slice A n cap, .func (.func 33) #[] #[]] W fun e w' => e = .returned (.bool ((List.range n).any (fun j => c.peers[j]?.any fun q => !rightP q))) ∧ Below W.heap.size W w' := fun W hb => by
    have hr2 := (hr.below hb).mono hb.size
    obtain ⟨vs, h1, h2, h3, h4⟩ := hr2
    have hcs : ∀ j, j < n → ∃ p x, c.peers[j]? = some p ∧ vs[j]? = some x ∧ (peersV c.peers vs)[j]? = some (p.cells x) := fun j hj =>
      ⟨_, _, List.getElem?_eq_getElem (by omega), List.getElem?_eq_getElem (by omega), peersV_at (List.getElem?_eq_getElem (by omega)) (List.getElem?_eq_getElem (by omega))⟩
    exact peerAny_any A n cap (fun j => ((peersV c.peers vs)[j]?).getD []) (fun j => c.peers[j]?.any fun q => !rightP q) 33 (by omega) (enters_of Tryz.func33 (by kernel_rfl) rfl) W (fun j hj => by
      obtain ⟨p, x, e1, e2, e3⟩ := hcs j hj
      obtain ⟨b, off, rfl⟩ := h2.addr (by omega)
      have hat := h2.at j _ e3
      refine ⟨b, off, rfl, ?_⟩
      simp only [e3, Option.getD_some]
      exact ⟨PeerM.cells_length (h3 p (List.mem_of_getElem? e1)) x, hat.1, hat.2⟩) (fun j hj W' hb' => by
      obtain ⟨p, x, e1, e2, e3⟩ := hcs j hj
      obtain ⟨A', c', rfl, _, _, hpf⟩ := h4 j p x e1 e2
      have hpk := h3 p (List.mem_of_getElem? e1)
      have hal := ha p (List.mem_of_getElem? e1)
      simp only [e3, Option.getD_some, e1, Option.any_some]
      exact wrongPeer_any p A' c' hpk (by omega) W' ((hlv.below hb).below hb') ((hpf.below hb').mono hb'.size))
  have hany := any_not_all c.peers rightP
  rw [hlen] at hany
  simp only [hany] at hfi
  have hale := alls_le ha
  obtain ⟨m, hm⟩ : ∃ m, (alls c.peers).length = m := ⟨_, rfl⟩
  simp only [hm] at hco
  have hkr := fun (A' : Option Addr) (c' : Nat) W (h1 : RdRow W W.heap.size A' 32 n (pubsV c.peers)) (hcc : n ≤ c') => keyRep_any A' n c' (c.peers.map PeerM.pub) W (by rw [List.map_map]; exact h1) (fun z hz => by
    obtain ⟨p, hp, rfl⟩ := List.mem_map.1 hz
    exact (hc.2.2 p hp).1) (by omega) hcc
  have hpr := fun (A' : Option Addr) (c' : Nat) W (h1 : PfRd W W.heap.size A' m (alls c.peers)) (hcc : m ≤ c') => prefRep_any A' m c' (alls c.peers) W h1.1 (fun z hz => by
    obtain ⟨p, hp, hz2⟩ := List.mem_flatMap.1 hz
    exact (hc.2.2 p hp).2.2.2.2.2 z hz2) (by omega) hcc
  have hve : validE c = if 8 < n ∨ 16 < m then 12 else if c.port < 0 ∨ 65535 < c.port ∨ c.peers.all rightP = false then 1 else if repM eqK (c.peers.map PeerM.pub) = true ∨ repM eqP (alls c.peers) = true then 19 else 0 := by
    rw [validE, hlen, show allP c = alls c.peers from rfl, hm]
  obtain ⟨z, hz⟩ : ∃ z, c.peers.all rightP = z := ⟨_, rfl⟩
  obtain ⟨r1, hr1⟩ : ∃ z, repM eqK (c.peers.map PeerM.pub) = z := ⟨_, rfl⟩
  obtain ⟨r2, hr2⟩ : ∃ z, repM eqP (alls c.peers) = z := ⟨_, rfl⟩
  rw [hz, hr1, hr2] at hve
  simp only [hz] at hfi
  simp only [hr1] at hkr
  simp only [hr2] at hpr
  obtain ⟨cx, hcx⟩ : ∃ z, (c.cells (.slice A n cap)).toArray = z := ⟨_, rfl⟩
  rw [hcx]
  have HC := Lib.hid hc
  have HCO := Lib.hid hco
  have HFI := Lib.hid hfi
  have HKR := Lib.hid hkr
  have HPR := Lib.hid hpr
  have HV0 := Lib.hid hve
  have HMN := Lib.hid (show n ≤ 1000 ∧ m ≤ 1000000 from by omega)
  have HAL := Lib.hid (show (∀ p ∈ c.peers, p.pub.length = 32) ∧ (∀ q ∈ alls c.peers, okP q) ∧ c.peers.length = n ∧ (alls c.peers).length = m from ⟨fun p hp => (hc.2.2 p hp).1, fun q hq => by
    obtain ⟨p, hp, hz2⟩ := List.mem_flatMap.1 hq
    exact (hc.2.2 p hp).2.2.2.2.2 q hz2, hlen, hm⟩)
  have HM0 := Lib.hid ((Lows.nil w).alloc 27 cx (c.cells (.slice A n cap)) hcx.symm)
  clear hc hr hn ha hlv hco hfi hany hale hm hkr hpr hve hz hr1 hr2 hcx hlen
  obtain ⟨g, hg⟩ : ∃ g, w.heap.size = g := ⟨_, rfl⟩
  have HM := Lib.hid (show Lows w [blkL g 27 (c.cells (.slice A n cap))] (w.alloc (.cells cx 27)) from by have h := HM0.out; rwa [hg] at h)
  have fp := conf_port (HM.out.blk 0 rfl).all HC.out
  have fs := conf_peers (HM.out.blk 0 rfl).all HC.out
  go_enter Tryz.func11, Tryz.ntmps11
  go_upto_region 1 with fail
  generalize w.alloc (.cells cx 27) = w1 at HM fp fs ⊢
  clear HM0 hg
  go_wp2_with fail
  refine (HCO.out w1 HM.out.bel).mono ?_
  rintro e w2 ⟨v1, v2, rfl, hT, hb⟩
  obtain ⟨A1, c1, rfl, hc1, _, _⟩ := own_sliceK hT.1
  obtain ⟨A2, c2, rfl, hc2, _, _⟩ := own_sliceK hT.2.1
  have HR1 := Lib.hid (show RdRow w2 w2.heap.size A1 32 n (pubsV c.peers) from RdRow.of_own (by rw [pubsV, List.length_map, HAL.out.2.2.1]) (fun o ho => by
    obtain ⟨p, hp, rfl⟩ := List.mem_map.1 ho
    rw [List.length_map, HAL.out.1 p hp]) hT.1)
  have hT2 := hT.2.1
  have HR2 := Lib.hid (show PfRd w2 w2.heap.size A2 m (alls c.peers) from PfRd.of_own HAL.out.2.2.2 HAL.out.2.1 hT2)
  replace HM := Lib.hid (HM.out.below hb)
  have HCC := Lib.hid (And.intro hc1 hc2)
  clear hT hT2 hb HCO fp fs hc1 hc2
  have fp := conf_port (HM.out.blk 0 rfl).all HC.out
  have fs := conf_peers (HM.out.blk 0 rfl).all HC.out
  by_cases h8 : 8 < n
  · have d8 : decide ((n : Int) > 8) = true := by simp; omega
    have d8' : decide (8 < n) = true := decide_eq_true h8
    have HVE := Lib.hid (show validE c = 12 from HV0.out.trans (if_pos (.inl h8)))
    go_wp2
    go_ret
    exact ⟨by rw [HVE.out]; rfl, HM.out.bel⟩
  · have d8 : decide ((n : Int) > 8) = false := by simp; omega
    have d8' : decide (8 < n) = false := decide_eq_false h8
    by_cases h16 : 16 < m
    · have d16 : decide ((m : Int) > 16) = true := by simp; omega
      have d16' : decide (16 < m) = true := decide_eq_true h16
      have HVE := Lib.hid (show validE c = 12 from HV0.out.trans (if_pos (.inr h16)))
      go_wp2
      go_ret
      exact ⟨by rw [HVE.out]; rfl, HM.out.bel⟩
    · have d16 : decide ((m : Int) > 16) = false := by simp; omega
      have d16' : decide (16 < m) = false := decide_eq_false h16
      replace HV0 := Lib.hid (HV0.out.trans (if_neg (by omega)))
      obtain ⟨q, hq⟩ : ∃ q, c.port = q := ⟨_, rfl⟩
      rw [hq] at fp HV0
      clear hq
      by_cases hp0 : q < 0
      · have p0 : decide (q < 0) = true := decide_eq_true hp0
        have HVE := Lib.hid (show validE c = 1 from HV0.out.trans (if_pos (.inl hp0)))
        go_wp2
        go_ret
        exact ⟨by rw [HVE.out]; rfl, HM.out.bel⟩
      · have p0 : decide (q < 0) = false := decide_eq_false hp0
        by_cases hp1 : 65535 < q
        · have p1 : decide (q > 65535) = true := decide_eq_true hp1
          have HVE := Lib.hid (show validE c = 1 from HV0.out.trans (if_pos (.inr (.inl hp1))))
          go_wp2
          go_ret
          exact ⟨by rw [HVE.out]; rfl, HM.out.bel⟩
        · have p1 : decide (q > 65535) = false := decide_eq_false hp1
          go_wp2_with fail
          refine (HFI.out w2 HM.out.bel).mono ?_
          rintro e w3 ⟨rfl, hb⟩
          replace HM := Lib.hid (HM.out.below hb)
          replace HR1 := Lib.hid ((HR1.out.below hb).mono hb.size)
          replace HR2 := Lib.hid ((HR2.out.below hb).mono hb.size)
          clear hb HFI fp fs
          cases z with
          | false =>
            have HVE := Lib.hid (show validE c = 1 from HV0.out.trans (if_pos (.inr (.inr rfl))))
            go_wp2
            go_ret
            exact ⟨by rw [HVE.out]; rfl, HM.out.bel⟩
          | true =>
            replace HV0 := Lib.hid (HV0.out.trans (if_neg (by simp; omega)))
            go_wp2_with fail
            refine (HKR.out A1 c1 w3 HR1.out HCC.out.1).mono ?_
            rintro e w4 ⟨rfl, hb⟩
            replace HM := Lib.hid (HM.out.below hb)
            replace HR2 := Lib.hid ((HR2.out.below hb).mono hb.size)
            clear hb HKR HR1
            cases r1 with
            | true =>
              have HVE := Lib.hid (show validE c = 19 from HV0.out.trans (if_pos (.inl rfl)))
              go_wp2
              go_ret
              exact ⟨by rw [HVE.out]; rfl, HM.out.bel⟩
            | false =>
              go_wp2_with fail
              refine (HPR.out A2 c2 w4 HR2.out HCC.out.2).mono ?_
              rintro e w5 ⟨rfl, hb⟩
              replace HM := Lib.hid (HM.out.below hb)
              clear hb HPR HR2
              cases r2 with
              | true =>
                have HVE := Lib.hid (show validE c = 19 from HV0.out.trans (if_pos (.inr rfl)))
                go_wp2
                go_ret
                exact ⟨by rw [HVE.out]; rfl, HM.out.bel⟩
              | false =>
                have HVE := Lib.hid (show validE c = 0 from HV0.out.trans (if_neg (by simp)))
                go_wp2
                go_ret
                exact ⟨by rw [HVE.out]; rfl, HM.out.bel⟩
end Go.Proofs.YtcbfchkhbngpkaaGreatDoor
namespace Go.Proofs.YtcbfchkhbngpkaaGreatDoor
open Go.RowKit

end Go.Proofs.YtcbfchkhbngpkaaGreatDoor
namespace Go.Proofs.YtcbfchkhbngpkaaGreatDoor
open Go.RowKit

/-- the choices at a world: p of them taken -/
structure CodesAt (W : World) (g : Nat) (A : Option Addr) (n c : Nat) (l : List UInt8) (B : Nat) (p : Nat) : Prop where
  blk : Blk W g 46 (codesC A n c p)
  rd : Rd W B A n l
  le : B ≤ g
  lt : g < W.heap.size
  small : n ≤ 100000
  pos : p ≤ n
section
variable {W W' : World} {g : Nat} {A : Option Addr} {n c : Nat} {l : List UInt8} {B p : Nat}
theorem CodesAt.below (h : CodesAt W g A n c l B p) (hb : Below W.heap.size W W') : CodesAt W' g A n c l B p :=
  ⟨h.blk.below hb h.lt, h.rd.below2 (by have := h.le; have := h.lt; omega) hb, h.le, Nat.lt_of_lt_of_le h.lt hb.size, h.small, h.pos⟩
theorem CodesAt.put (h : CodesAt W g A n c l B p) {b : Nat} (hg : W.grownBy W' (some b)) (hb : g < b) : CodesAt W' g A n c l B p :=
  ⟨h.blk.grown hg (fun e => by injection e with e; omega), h.rd.keep (fun q hq => World.cell?_of_block (hg.block q.block (by have := h.le; have := h.lt; omega) (fun e => by injection e with e; have := h.le; omega))), h.le, Nat.lt_of_lt_of_le h.lt hg.size, h.small, h.pos⟩
theorem CodesAt.next (h : CodesAt W g A n c l B p) {q : Nat} (hq : q ≤ n) (hb : Blk W' g 46 (codesC A n c q)) (hg : W.grownBy W' (some g)) : CodesAt W' g A n c l B q :=
  ⟨hb, h.rd.kept h.le h.lt hg, h.le, Nat.lt_of_lt_of_le h.lt hg.size, h.small, hq⟩
theorem CodesAt.nextLe (h : CodesAt W g A n c l B p) (m : Nat) : nextP l p m ≤ n := by have := nextP_le l p m (by rw [h.rd.1]; exact h.pos); rw [h.rd.1] at this; exact this
theorem CodesAt.callNext (h : CodesAt W g A n c l B p) (m : Nat) (hm : m ≤ 1000000) :
    Calls Tryz.prog 19 #[.pointer (some ⟨g, 0, none⟩), .int .i64 (m : Int)] W fun e w' => e = .returned (.int .i64 (nextV l p m : Int)) ∧ CodesAt w' g A n c l B (nextP l p m) ∧ W.grownBy w' (some g) :=
  (caseNext_any g A n c l p h.small h.pos m hm B h.le W h.blk h.rd).mono fun _ _ k => ⟨k.1, h.next (h.nextLe m) k.2.1 k.2.2, k.2.2⟩
end
end Go.Proofs.YtcbfchkhbngpkaaGreatDoor
namespace Go.Proofs.YtcbfchkhbngpkaaGreatDoor
open Go.RowKit

theorem fill_rows (n : Nat) : ∀ (rows : List (List Value)) (j : Nat) (base : Array Value), (∀ r ∈ rows, r.length = n) → base.size = (j + rows.length) * n →
    Instr.fill (fun i => some (i * n, n)) base ((rows.zipIdx j).map fun x => (x.2, Value.agg x.1.toArray)) = some (base.toList.take (j * n) ++ rows.flatten).toArray
  | [], j, base, _, hb => by
    have : base.toList.take (j * n) = base.toList := List.take_of_length_le (by simp at hb ⊢; omega)
    rw [this]
    simp [Instr.fill]
  | r :: rows, j, base, hr, hb => by
    have hrl : r.length = n := hr r (by simp)
    have hb2 : j * n + n + rows.length * n = base.size := by rw [hb, List.length_cons, show j + (rows.length + 1) = j + 1 + rows.length by omega, Nat.add_mul, Nat.succ_mul]
    have h1 : (r.toArray.zipIdx.foldl (fun cs (x : Value × Nat) => cs.setIfInBounds (j * n + x.2) x.1) base).toList = base.toList.take (j * n) ++ r ++ base.toList.drop (j * n + r.length) := by
      have := foldl_set_list (j * n) r 0 base (by simp; omega)
      rw [← Array.foldl_toList]
      simpa using this
    have hs : (r.toArray.zipIdx.foldl (fun cs (x : Value × Nat) => cs.setIfInBounds (j * n + x.2) x.1) base).size = base.size := by
      rw [← Array.length_toList, h1]
      simp
      omega
    rw [List.zipIdx_cons, List.map_cons]
    refine (if_neg (two_tests (fun hne => hne (show r.toArray.size = n by simpa using hrl)) (fun hlt : j * n + r.toArray.size > base.size => by simp at hlt; omega))).trans ?_
    have ih := fill_rows n rows (j + 1) _ (fun x hx => hr x (List.mem_cons_of_mem _ hx)) (show (r.toArray.zipIdx.foldl (fun cs (x : Value × Nat) => cs.setIfInBounds (j * n + x.2) x.1) base).size = (j + 1 + rows.length) * n by rw [hs, hb, List.length_cons]; congr 1; omega)
    refine ih.trans ?_
    rw [h1, List.flatten_cons, Nat.succ_mul]
    congr 2
    rw [List.take_append_of_le_length (by simp; omega), List.take_of_length_le (by simp; omega), List.append_assoc]
end Go.Proofs.YtcbfchkhbngpkaaGreatDoor
