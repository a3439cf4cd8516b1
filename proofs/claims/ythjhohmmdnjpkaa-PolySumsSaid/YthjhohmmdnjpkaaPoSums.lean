/-
  PolySums returns true for every key, data and fill, and changes nothing that was there: the walk, over what is asked of poly.Sum.
-/
import Derived.Test.YthjhohmmdnjpkaaPoBegun
import Derived.Test.YthjhohmmdnjpkaaLoadOff
import Derived.Test.YthjhohmmdnjpkaaCut
import Derived.Test.YthjhohmmdnjpkaaTwoRows
namespace Go.Proofs.Ythjhohmmdnjpkaa
open Go.RowKit

/-- n bytes of which the first j are v, the others 0 -/
def fillRow (v : UInt8) (n j : Nat) : List UInt8 := List.replicate j v ++ List.replicate (n - j) 0
theorem fillRow_length (v : UInt8) (n j : Nat) (h : j ≤ n) : (fillRow v n j).length = n := by simp [fillRow]; omega
theorem fillRow_zero (v : UInt8) (n : Nat) : fillRow v n 0 = List.replicate n 0 := by simp [fillRow]
theorem fillRow_end (v : UInt8) (n : Nat) : fillRow v n n = List.replicate n v := by simp [fillRow]
theorem fillRow_set (v : UInt8) (n j : Nat) (h : j < n) : (fillRow v n j).set j v = fillRow v n (j + 1) := by
  unfold fillRow
  rw [List.set_append_right _ _ (by simp), List.length_replicate, Nat.sub_self, show n - j = (n - (j + 1)) + 1 by omega, List.replicate_succ, List.set_cons_zero, List.replicate_succ', List.append_assoc]
  rfl
theorem own_blk {w : World} {base e g n : Nat} {xs : List Value} (h : w.ownsRow base e 1 (.slice (some ⟨g, 0, none⟩) n n) n xs) : Blk w g e xs := by
  rcases h.2 with ⟨h0, _⟩ | ⟨g', cap, cur, hv, _, hg, _, _, hcs, ht⟩
  · cases h0
  · simp only [Value.slice.injEq, Option.some.injEq, Addr.mk.injEq, and_true, true_and] at hv
    obtain ⟨rfl, rfl⟩ := hv
    have : cur.toList = xs := by
      rw [← ht, List.take_of_length_le (by simp; omega)]
    unfold Blk
    rw [hg, ← this]

set_option maxRecDepth 100000 in
set_option maxHeartbeats 4000000 in
theorem sums_walk (HS : SumC) (w : World) (k : List UInt8) (A : Option Addr) (len cap : Nat) (l : List UInt8) (fill : Nat) (hk : k.length = 32) (hlc : len ≤ cap) (hcm : cap ≤ maxLen) (hr : Rd w w.heap.size A len l) (hf : fill ≤ 255) :
    Calls Try.prog 3 #[.agg (k.map u8v).toArray, .slice A len cap, .int .u8 (fill : Int)] w fun e w' => e = .returned (.bool true) ∧ Below w.heap.size w w' := by
  obtain ⟨i0, hi, hz0, hz1, hz2⟩ := info_parts Try.info5
  obtain ⟨ck, hck⟩ : ∃ ck, (k.map u8v).toArray = ck := ⟨_, rfl⟩
  rw [hck]
  obtain ⟨iK, hiK, zK0, zK1, _⟩ := info_parts (P := Try.prog) (e := 23) (z := .agg (List.replicate 32 (.int .u8 0)).toArray) (size := 32) (bytes := 32) (by kernel_rfl)
  have HB0 := Lib.hid (show Blk (w.alloc (.cells ck 23)) w.heap.size 23 (k.map u8v) by rw [← hck]; exact Blk.new w _ _)
  have HR := Lib.hid hr
  have HK := Lib.hid hk
  have HCK := Lib.hid hck
  have HBG := Lib.hid (begun_any HS)
  have HSS := Lib.hid HS
  clear hr hk hck HS
  go_enter Try.func3, Try.ntmps3
  go_upto_region 1 with fail
  have hb0 : Below w.heap.size w (w.alloc (.cells ck 23)) := (Below.refl _ _).alloc (Nat.le_refl _) _
  have hs0 : (w.alloc (.cells ck 23)).heap.size = w.heap.size + 1 := by simp
  have hblk := HB0.out
  clear HB0
  generalize w.alloc (.cells ck 23) = w1 at hb0 hs0 hblk ⊢
  have H0 := Lib.hid (And.intro hblk (And.intro hb0 hs0))
  clear hb0 hs0 hblk
  go_wp2_with fail
  refine (cut_any _ A len cap 200 l hlc hcm _ ((HR.out.below H0.out.2.1).mono H0.out.2.1.size)).mono ?_
  rintro e w2 ⟨rfl, hr2, rfl⟩
  obtain ⟨n, hn⟩ : ∃ n, min len 200 = n := ⟨_, rfl⟩
  obtain ⟨dl, hdle⟩ : ∃ dl, l.take 200 = dl := ⟨_, rfl⟩
  rw [hn, hdle] at hr2
  rw [hn]
  have hn200 : n ≤ 200 := by omega
  have hnc : n ≤ cap := by omega
  have HD := Lib.hid hr2
  clear hn hdle hr2 HR hlc
  go_upto_region 3 with (refine wpList_make_full _ rfl (.const (.int .i64 48)) (.const (.int .i64 48)) 24 rfl w1.heap.size 5 i0 (.int .u8 0) 1 Try.underlying24 hi hz0 hz1 .i64 .i64 48 48 48 rfl rfl rfl rfl (by rw [hz2]; omega) (by unfold maxLen; omega) (Nat.le_refl _) ?_; intro w3 hown3 hg3)
  have hb3 := own_blk hown3
  rw [show (Value.int IntKind.u8 0).cells = #[.int .u8 0] from rfl, toList_madeCells_one, Nat.mul_one] at hb3
  have h13 : Below w1.heap.size w1 w3 := Below.grown (Below.refl _ _) hg3 (Nat.le_refl _) (by simp)
  have hl3 := hb3.lt
  have H3 := Lib.hid (And.intro hb3 (And.intro h13 hl3))
  clear hown3 hg3 hb3 h13 hl3
  go_upto_region 4 with fail
  have ga := H3.out.1.alloc (.cells z32.toArray 23)
  have gb := H3.out.2.1.alloc H3.out.2.1.size (.cells z32.toArray 23)
  have gc : Blk (w3.alloc (.cells z32.toArray 23)) w3.heap.size 23 z32 := Blk.new w3 _ _
  have gd : w1.heap.size < w3.heap.size := H3.out.2.2
  rw [show z32.toArray = #[.int .u8 0, .int .u8 0, .int .u8 0, .int .u8 0, .int .u8 0, .int .u8 0, .int .u8 0, .int .u8 0, .int .u8 0, .int .u8 0, .int .u8 0, .int .u8 0, .int .u8 0, .int .u8 0, .int .u8 0, .int .u8 0, .int .u8 0, .int .u8 0, .int .u8 0, .int .u8 0, .int .u8 0, .int .u8 0, .int .u8 0, .int .u8 0, .int .u8 0, .int .u8 0, .int .u8 0, .int .u8 0, .int .u8 0, .int .u8 0, .int .u8 0, .int .u8 0] from rfl] at ga gb gc
  generalize w3.alloc (.cells #[.int .u8 0, .int .u8 0, .int .u8 0, .int .u8 0, .int .u8 0, .int .u8 0, .int .u8 0, .int .u8 0, .int .u8 0, .int .u8 0, .int .u8 0, .int .u8 0, .int .u8 0, .int .u8 0, .int .u8 0, .int .u8 0, .int .u8 0, .int .u8 0, .int .u8 0, .int .u8 0, .int .u8 0, .int .u8 0, .int .u8 0, .int .u8 0, .int .u8 0, .int .u8 0, .int .u8 0, .int .u8 0, .int .u8 0, .int .u8 0, .int .u8 0, .int .u8 0] 23) = w4 at ga gb gc ⊢
  clear H3
  generalize w3.heap.size = O at gc gd ⊢
  have H4 := Lib.hid (And.intro ga (And.intro gc gb))
  have HO := Lib.hid gd
  clear ga gb gc gd
  obtain ⟨v, hv⟩ : ∃ v : UInt8, v.toNat = 255 - fill % 3 := ⟨UInt8.ofNat (255 - fill % 3), by rw [UInt8.toNat_ofNat', Nat.mod_eq_of_lt (by omega)]⟩
  have hv1 : 255 - (fill : Int) % 3 = (v.toNat : Int) := by omega
  clear hv
  go_wp2_with fail
  go_loopw [21, 10] (fun iv _ wr => ∃ j : Nat, j ≤ 48 ∧ iv = .int .i64 (j : Int) ∧ Blk wr w1.heap.size 5 ((fillRow v 48 j).map u8v) ∧ Blk wr O 23 z32 ∧ Below w1.heap.size w1 wr) (fun iv _ _ => 48 - (intOf iv).toNat)
  case atStart => exact ⟨0, by omega, rfl, by rw [fillRow_zero, List.map_replicate]; exact H4.out.1, H4.out.2.1, H4.out.2.2⟩
  case round =>
    clear H4
    obtain ⟨j, hj, rfl, hrow, ho, hbel⟩ := hrel
    by_cases hlt : j < 48
    · have d48 : decide ((j : Int) < 48) = true := by simp; omega
      have fx : ∃ u, wr.cell? ⟨w1.heap.size, j, none⟩ = some u := by
        rw [hrow.cell j]
        exact ⟨_, List.getElem?_eq_getElem (by rw [List.length_map, fillRow_length _ _ _ hj]; omega)⟩
      obtain ⟨u, fx⟩ := fx
      have zx := hrow.frozen j
      have hset := hrow.set_ j (u8v v)
      rw [← List.map_set, fillRow_set v 48 j hlt] at hset
      have hoo := HO.out
      have HN := Lib.hid (And.intro hset (And.intro (ho.far (p := ⟨w1.heap.size, j, none⟩) (by simp; omega) (u8v v)) (hbel.setCell (p := ⟨w1.heap.size, j, none⟩) (Nat.le_refl _) (u8v v))))
      clear hrow ho hbel hset hoo
      go_wp2_with fail
      go_roundw
      case rel => exact ⟨j + 1, by omega, by go_num, HN.out.1, HN.out.2.1, HN.out.2.2⟩
      case measure => simp [intOf]; omega
    · obtain rfl : j = 48 := by omega
      rw [fillRow_end] at hrow
      have H5 := Lib.hid (And.intro hrow (And.intro ho hbel))
      clear hrow ho hbel hv1
      rw [show ((48 : Nat) : Int) = 48 from rfl]
      go_wp2_with fail
      go_loopw [31, 11] (fun iv _ wr => ∃ j : Nat, j ≤ 32 ∧ iv = .int .i64 (j : Int) ∧ Blk wr O 23 ((fillRow 255 32 j).map u8v) ∧ Hid (Blk wr w1.heap.size 5 ((List.replicate 48 v).map u8v) ∧ Below w1.heap.size w1 wr)) (fun iv _ _ => 32 - (intOf iv).toNat)
      case atStart => exact ⟨0, by omega, rfl, by rw [fillRow_zero, List.map_replicate]; exact H5.out.2.1, Lib.hid ⟨H5.out.1, H5.out.2.2⟩⟩
      case round =>
        clear H5
        obtain ⟨j, hj, rfl, hrow, HX⟩ := hrel
        by_cases hlt : j < 32
        · have d32 : decide ((j : Int) < 32) = true := by simp; omega
          have fx : ∃ u, wr.cell? ⟨O, j, none⟩ = some u := by
            rw [hrow.cell j]
            exact ⟨_, List.getElem?_eq_getElem (by rw [List.length_map, fillRow_length _ _ _ hj]; omega)⟩
          obtain ⟨u, fx⟩ := fx
          have zx := hrow.frozen j
          have hset := hrow.set_ j (u8v 255)
          rw [← List.map_set, fillRow_set 255 32 j hlt] at hset
          have hoo := HO.out
          have HN := Lib.hid (And.intro hset (And.intro (HX.out.1.far (p := ⟨O, j, none⟩) (by simp; omega) (u8v 255)) (HX.out.2.setCell (p := ⟨O, j, none⟩) (by dsimp only; omega) (u8v 255))))
          clear hrow HX hset hoo
          go_wp2_with fail
          go_roundw
          case rel => exact ⟨j + 1, by omega, by go_num, HN.out.1, Lib.hid HN.out.2⟩
          case measure => simp [intOf]; omega
        · obtain rfl : j = 32 := by omega
          rw [fillRow_end] at hrow
          have hk1 := H0.out.1.below HX.out.2 H0.out.1.lt
          have H6 := Lib.hid (And.intro hk1 (And.intro hrow HX.out))
          clear hrow HX hk1
          obtain ⟨co, hco⟩ : ∃ c, ((List.replicate 32 (255 : UInt8)).map u8v).toArray = c := ⟨_, rfl⟩
          have HCO := Lib.hid hco
          clear hco
          rw [show ((32 : Nat) : Int) = 32 from rfl]
          have hck32 : ck.size = 32 := by rw [← HCK.out]; simp [HK.out]
          have hco32 : co.size = 32 := by rw [← HCO.out]; simp
          go_upto_region 15 with (first | (refine wpList_buildTwo rfl 26 23 (.tmp 37) (.tmp 38) rfl ck co rfl rfl 32 Try.underlying26 iK hiK zK1 _ zK0 (by omega) (by omega) hck32 hco32 ?_) | (refine wpList_load_blk rfl 23 (.tmp 3) rfl w.heap.size rfl 23 (k.map u8v) H6.out.1 32 5 Try.underlying23 (cells32 k HK.out) ?_; rw [HCK.out]) | (refine wpList_load_blk rfl 23 (.tmp 9) rfl O rfl 23 ((List.replicate 32 255).map u8v) H6.out.2.1 32 5 Try.underlying23 (cells32 _ (by simp)) ?_; rw [HCO.out]))
          have gb2 : Blk (wr.alloc (.cells (ck ++ co) 23)) wr.heap.size 23 ((k ++ List.replicate 32 255).map u8v) := by
            rw [show ck ++ co = (((k ++ List.replicate 32 255).map u8v).toArray) from by rw [← HCK.out, ← HCO.out]; simp]
            exact Blk.new wr _ _
          have gd2 := H6.out.2.2.1.alloc (.cells (ck ++ co) 23)
          have ge2 := H6.out.2.2.2.alloc H6.out.2.2.2.size (.cells (ck ++ co) 23)
          generalize wr.alloc (.cells (ck ++ co) 23) = w5 at gb2 gd2 ge2 ⊢
          clear H6 hck32 hco32
          generalize wr.heap.size = T at gb2 ⊢
          have H7 := Lib.hid (And.intro gb2 (And.intro gd2 ge2))
          clear gb2 gd2 ge2
          go_loopw [41, 13] (fun iv _ wr => ∃ j : Nat, j ≤ 2 ∧ iv = .int .i64 (j : Int) ∧ Hid (Blk wr T 23 ((k ++ List.replicate 32 255).map u8v) ∧ Blk wr w1.heap.size 5 ((List.replicate 48 v).map u8v) ∧ Below w1.heap.size w1 wr)) (fun iv _ _ => 2 - (intOf iv).toNat)
          case atStart => exact ⟨0, by omega, rfl, H7⟩
          case round =>
            clear H7
            obtain ⟨j, hj, rfl, HX⟩ := hrel
            by_cases hlt : j < 2
            · have d2 : decide ((j : Int) < 2) = true := by simp; omega
              obtain ⟨x, hxd⟩ : ∃ x, ((k ++ List.replicate 32 (255 : UInt8)).drop (j * 32)).take 32 = x := ⟨_, rfl⟩
              have hxl : x.length = 32 := by rw [← hxd]; simp [HK.out]; omega
              have hxc : ∀ i u, (x.map u8v)[i]? = some u → wr.cell? ⟨T, j * 32 + i, none⟩ = some u := by
                have h0 := HX.out.1.row (j * 32) 32
                rw [← List.map_drop, ← List.map_take, hxd] at h0
                exact h0
              have HXL := Lib.hid hxl
              have HXC := Lib.hid hxc
              obtain ⟨cx, hcx⟩ : ∃ c, (x.map u8v).toArray = c := ⟨_, rfl⟩
              have HCX := Lib.hid hcx
              clear hcx hxl hxc hxd
              go_upto_region 17 with (first | (refine wpList_load_off rfl 23 (.tmp 43) rfl T (j * 32) rfl (x.map u8v) HXC.out 32 5 Try.underlying23 (cells32 x HXL.out) ?_; rw [HCX.out]) | (refine wpList_store_blk rfl 23 (.tmp 13) (.tmp 44) rfl wr.heap.size (x.map u8v) rfl (by show Value.agg cx = _; rw [HCX.out]) 23 z32 (Blk.new wr 23 z32) (cells32 x HXL.out) (by rw [List.length_map, HXL.out]; rfl) (u8v_one _) ?_; intro w6 hb6 hg6))
              have hb16 : Below wr.heap.size wr w6 := Below.grown ((Below.refl _ _).alloc (Nat.le_refl _) (.cells z32.toArray 23)) hg6 (by simp) (by intro q hq; injection hq with hq; omega)
              have H8 := Lib.hid (And.intro hb6 (And.intro (HX.out.1.below hb16 HX.out.1.lt) (And.intro (HX.out.2.1.below hb16 HX.out.2.1.lt) (HX.out.2.2.trans (hb16.mono HX.out.2.2.size)))))
              clear hb6 hg6 hb16 HX HXC
              generalize wr.heap.size = X at H8 ⊢
              obtain ⟨m, hm⟩ : ∃ m : Nat, (fill : Int) % 49 = (m : Int) := ⟨fill % 49, by omega⟩
              have hm48 : m ≤ 48 := by omega
              go_upto_region 18 with fail
              have gb9 : Blk (w6.alloc (.cells #[.slice A n cap, .slice (some ⟨w1.heap.size, 0, none⟩) 48 48, .slice (some ⟨w1.heap.size, 0, none⟩) m 48] 24)) w6.heap.size 24 [.slice A n cap, .slice (some ⟨w1.heap.size, 0, none⟩) 48 48, .slice (some ⟨w1.heap.size, 0, none⟩) m 48] := Blk.new w6 _ _
              have ga9 := And.intro gb9 (And.intro (H8.out.1.alloc (.cells #[.slice A n cap, .slice (some ⟨w1.heap.size, 0, none⟩) 48 48, .slice (some ⟨w1.heap.size, 0, none⟩) m 48] 24)) (And.intro (H8.out.2.1.alloc (.cells #[.slice A n cap, .slice (some ⟨w1.heap.size, 0, none⟩) 48 48, .slice (some ⟨w1.heap.size, 0, none⟩) m 48] 24)) (And.intro (H8.out.2.2.1.alloc (.cells #[.slice A n cap, .slice (some ⟨w1.heap.size, 0, none⟩) 48 48, .slice (some ⟨w1.heap.size, 0, none⟩) m 48] 24)) (H8.out.2.2.2.alloc H8.out.2.2.2.size (.cells #[.slice A n cap, .slice (some ⟨w1.heap.size, 0, none⟩) 48 48, .slice (some ⟨w1.heap.size, 0, none⟩) m 48] 24)))))
              clear gb9 H8
              generalize w6.alloc (.cells #[.slice A n cap, .slice (some ⟨w1.heap.size, 0, none⟩) 48 48, .slice (some ⟨w1.heap.size, 0, none⟩) m 48] 24) = w7 at ga9 ⊢
              generalize w6.heap.size = Y at ga9 ⊢
              have H9 := Lib.hid ga9
              clear ga9 hm
              go_loopw [54, 15] (fun iv _ wr => ∃ i : Nat, i ≤ 3 ∧ iv = .int .i64 (i : Int) ∧ Hid (Blk wr Y 24 [.slice A n cap, .slice (some ⟨w1.heap.size, 0, none⟩) 48 48, .slice (some ⟨w1.heap.size, 0, none⟩) m 48] ∧ Blk wr X 23 (x.map u8v) ∧ Blk wr T 23 ((k ++ List.replicate 32 255).map u8v) ∧ Blk wr w1.heap.size 5 ((List.replicate 48 v).map u8v) ∧ Below w1.heap.size w1 wr)) (fun iv _ _ => 3 - (intOf iv).toNat)
              case atStart => exact ⟨0, by omega, rfl, H9⟩
              case round =>
                clear H9
                obtain ⟨i, hi3, rfl, HX⟩ := hrel
                by_cases hlt3 : i < 3
                · have d3 : decide ((i : Int) < 3) = true := by simp; omega
                  obtain ⟨A', n', cap', l', hcell, hrd, hnc', hcm', hn1⟩ : ∃ A' n' cap' l', wr.cell? ⟨Y, i, none⟩ = some (.slice A' n' cap') ∧ Rd wr wr.heap.size A' n' l' ∧ n' ≤ cap' ∧ cap' ≤ maxLen ∧ n' ≤ 1000 := by
                    have hrow := HX.out.1
                    have hfu := HX.out.2.2.2.1
                    have hbb := HX.out.2.2.2.2
                    rcases (show i = 0 ∨ i = 1 ∨ i = 2 by omega) with rfl | rfl | rfl
                    · exact ⟨A, n, cap, dl, by rw [hrow.cell]; rfl, (HD.out.below hbb).mono hbb.size, hnc, hcm, by omega⟩
                    · exact ⟨some ⟨w1.heap.size, 0, none⟩, 48, 48, _, by rw [hrow.cell]; rfl, (hfu.rd 0 48 (by simp)).mono hfu.lt, by omega, by unfold maxLen; omega, by omega⟩
                    · exact ⟨some ⟨w1.heap.size, 0, none⟩, m, 48, _, by rw [hrow.cell]; rfl, (hfu.rd 0 m (by simp; omega)).mono hfu.lt, by omega, by unfold maxLen; omega, by omega⟩
                  have SX := fun (w' : World) (h : Rd w' w'.heap.size A' n' l') => HSS.out x HXL.out A' n' cap' l' hnc' hcm' hn1 w' h
                  have RX := fun (w' : World) (h : Rd w' w'.heap.size A' n' l') => refPoly_any x HXL.out A' n' cap' l' hnc' hcm' w' h
                  obtain ⟨tg, htg⟩ : ∃ t, tagL x l' = t := ⟨_, rfl⟩
                  rw [htg, HCX.out] at SX RX
                  have eqT := tag_same tg (by rw [← htg]; exact tagL_length _ _)
                  obtain ⟨ct, hct⟩ : ∃ c, (tg.map u8v).toArray = c := ⟨_, rfl⟩
                  rw [hct] at SX RX eqT
                  have HSX := Lib.hid SX
                  have HRX := Lib.hid RX
                  have HRD := Lib.hid hrd
                  clear SX RX hct htg hrd
                  go_upto_region 20 with fail
                  clear hcell d3
                  refine wp_region_held_drew (S := fun w' => Below wr.heap.size wr w') (by kernel_rfl) ((Below.refl wr.heap.size wr).drew) (fun hHeld => ?_)
                  refine take_first (v := .agg cx) 0 rfl (by kernel_rfl) (by kernel_rfl) (by kernel_rfl) (fun _ _ _ h => h) (by rw [← HCX.out]; exact yields_load_blk (by rfl) 23 (.tmp 13) rfl X rfl 23 (x.map u8v) (fun w' hb => HX.out.2.1.below hb HX.out.2.1.lt) 32 5 Try.underlying23 (cells32 _ HXL.out)) (by assumption) ?_
                  (try simp only [Act.put, List.setIfInBounds_toArray, List.set_cons_zero, List.set_cons_succ])
                  refine take_first (v := ?_) 1 rfl (by kernel_rfl) (by kernel_rfl) (by kernel_rfl) (fun _ _ _ h => h) (Or.inl ⟨by rfl, ?_⟩) (by assumption) ?_
                  rotate_left
                  · (intro w hSw; (try dsimp only at hSw); go_simp; try with_reducible rfl)
                  (try simp only [Act.put, List.setIfInBounds_toArray, List.set_cons_zero, List.set_cons_succ])
                  refine take_first (v := .agg cx) 3 rfl (by kernel_rfl) (by kernel_rfl) (by kernel_rfl) (fun _ _ _ h => h) (by rw [← HCX.out]; exact yields_load_blk (by rfl) 23 (.tmp 13) rfl X rfl 23 (x.map u8v) (fun w' hb => HX.out.2.1.below hb HX.out.2.1.lt) 32 5 Try.underlying23 (cells32 _ HXL.out)) (by assumption) ?_
                  (try simp only [Act.put, List.setIfInBounds_toArray, List.set_cons_zero, List.set_cons_succ])
                  refine take_first (v := ?_) 4 rfl (by kernel_rfl) (by kernel_rfl) (by kernel_rfl) (fun _ _ _ h => h) (Or.inl ⟨by rfl, ?_⟩) (by assumption) ?_
                  rotate_left
                  · (intro w hSw; (try dsimp only at hSw); go_simp; try with_reducible rfl)
                  (try simp only [Act.put, List.setIfInBounds_toArray, List.set_cons_zero, List.set_cons_succ])
                  refine step_one 2 rfl (by kernel_rfl) (fun K hK => ?_)
                  go_simp
                  refine (HSX.out _ ((HRD.out.below hHeld).mono hHeld.size)).mono ?_
                  rintro e wa ⟨rfl, hb⟩
                  go_wp2_with fail
                  refine hK.out _ _ (hHeld.trans (hb.mono hHeld.size)) (fun hHeld => ?_)
                  clear hK K hb
                  (try simp only [Act.put, List.setIfInBounds_toArray, List.set_cons_zero, List.set_cons_succ])
                  refine step_one 5 rfl (by kernel_rfl) (fun K hK => ?_)
                  go_simp
                  refine (HRX.out _ ((HRD.out.below hHeld).mono hHeld.size)).mono ?_
                  rintro e wb ⟨rfl, hb⟩
                  go_wp2_with fail
                  refine hK.out _ _ (hHeld.trans (hb.mono hHeld.size)) (fun hHeld => ?_)
                  clear hK K hb
                  (try simp only [Act.put, List.setIfInBounds_toArray, List.set_cons_zero, List.set_cons_succ])
                  refine take_first (v := ?_) 6 rfl (by kernel_rfl) (by kernel_rfl) (by kernel_rfl) (fun _ _ _ h => h) (Or.inl ⟨by rfl, ?_⟩) (by assumption) ?_
                  rotate_left
                  · (intro w hSw; (try dsimp only at hSw); go_simp; try with_reducible rfl)
                  (try simp only [Act.put, List.setIfInBounds_toArray, List.set_cons_zero, List.set_cons_succ])
                  refine wpAnyH_done (by kernel_rfl) ?_ _
                  have HEND := Lib.hid (And.intro (HX.out.1.below hHeld HX.out.1.lt) (And.intro (HX.out.2.1.below hHeld HX.out.2.1.lt) (And.intro (HX.out.2.2.1.below hHeld HX.out.2.2.1.lt) (And.intro (HX.out.2.2.2.1.below hHeld HX.out.2.2.2.1.lt) (HX.out.2.2.2.2.trans (hHeld.mono HX.out.2.2.2.2.size))))))
                  clear hHeld eqT
                  go_wp2_with fail
                  go_roundw
                  case rel => exact ⟨i + 1, by omega, by go_num, HEND⟩
                  case measure => simp [intOf]; omega
                · obtain rfl : i = 3 := by omega
                  have H10 := Lib.hid (And.intro HX.out.2.2.1 HX.out.2.2.2)
                  clear HX
                  rw [show ((3 : Nat) : Int) = 3 from rfl]
                  go_wp2_with fail
                  go_roundw
                  case rel => exact ⟨j + 1, by omega, by go_num, H10⟩
                  case measure => simp [intOf]; omega
            · obtain rfl : j = 2 := by omega
              have H11 := Lib.hid (H0.out.2.1.trans (HX.out.2.2.mono H0.out.2.1.size))
              clear HX
              rw [show ((2 : Nat) : Int) = 2 from rfl]
              go_wp2_with fail
              refine (HBG.out _).mono ?_
              rintro e wz ⟨rfl, hz⟩
              have HEND := Lib.hid (H11.out.trans (hz.mono H11.out.size))
              clear H11 hz
              go_wp2_with fail
              go_ret
              exact ⟨rfl, HEND.out⟩
end Go.Proofs.Ythjhohmmdnjpkaa
