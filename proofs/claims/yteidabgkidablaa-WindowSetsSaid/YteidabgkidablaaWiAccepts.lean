/-
  The walk of WindowAccepts over what is asked of the program. No statement is proved here.
-/
import Derived.Test.YteidabgkidablaaAtOp
import Derived.Test.YteidabgkidablaaWiBegun
import Derived.Test.YteidabgkidablaaWiNear
import Derived.Test.YteidabgkidablaaWiAccept
import Derived.Test.YteidabgkidablaaInts
import Derived.Test.YteidabgkidablaaMinK
import Derived.Test.YteidabgkidablaaAppZ
import Derived.Test.YteidabgkidablaaBuildRows
import Derived.Test.YteidabgkidablaaNeqAgg
import Derived.Test.YteidabgkidablaaRegion
import Derived.RegionTactic
import Derived.Deep.DeepCutAuto
namespace Go.Proofs.Yteidabgkidablaa
open Go.RowKit

def winsV (l : List WinM) : List (List Value) := l.map WinM.cells
theorem acceptM_snd (x : WinM) (c : Nat) : (acceptM x c).2 = checkM x c := by
  unfold acceptM
  split
  · rename_i h; exact h.symm
  · rename_i h; simpa using h
theorem wins4_eq {a b c d : WinM} {x y z v : Array Value} (h1 : a.cells.toArray = x) (h2 : b.cells.toArray = y) (h3 : c.cells.toArray = z) (h4 : d.cells.toArray = v) : [(0, Value.agg x), (1, Value.agg y), (2, Value.agg z), (3, Value.agg v)] = ((winsV [a, b, c, d]).zipIdx 0).map fun x => (x.2, Value.agg x.1.toArray) := by
  subst h1 h2 h3 h4
  rfl
theorem winInfo : ∃ i, Try.prog.info? 25 = some i ∧ i.zero = some (.agg winZ.toArray) ∧ i.size = 6 := by
  have h : (Try.prog.info? 25).map (fun i => (i.zero, i.size)) = some (some (.agg winZ.toArray), 6) := by kernel_rfl
  cases hi : Try.prog.info? 25 with
  | none => rw [hi] at h; cases h
  | some i =>
    rw [hi] at h
    simp only [Option.map_some, Option.some.injEq, Prod.mk.injEq] at h
    exact ⟨i, rfl, h.1, h.2⟩
theorem u16Info : (Try.prog.info? 31).map (fun i => (i.zero, i.size, i.bytes)) = some (some (.int .u16 0), 1, 2) := by kernel_rfl
set_option maxRecDepth 100000 in
set_option maxHeartbeats 8000000 in
theorem wi_accepts_walk (HA : WiAcceptC 6) (HCK : WiCheckC 8) (w : World) (x : WinM) (c : Nat) (As : Option Addr) (ns cs : Nat) (st : List Int) (f : Nat) (hx : x.ok) (hc : c < 18446744073709551616) (hnc : ns ≤ cs ∧ cs ≤ maxLen) (hs : IntRd .u16 w w.heap.size As ns st) (hsr : ∀ z ∈ st, 0 ≤ z ∧ z < 65536) (hf : f < 18446744073709551616) :
    Calls Try.prog 3 #[.agg x.cells.toArray, .int .u64 (c : Int), .slice As ns cs, .int .u64 (f : Int)] w fun e w' => e = .returned (.bool true) ∧ Below w.heap.size w w' := by
  have HBG := Lib.hid (fun W : World => wi_begun_any HA HCK W)
  have HAH := Lib.hid HA
  have HCH := Lib.hid HCK
  have HXO := Lib.hid hx
  have HSR := Lib.hid hsr
  have HNC := Lib.hid hnc
  obtain ⟨y, b, hyb⟩ : ∃ y b, acceptM x c = (y, b) := ⟨_, _, rfl⟩
  have hcb : checkM x c = b := by rw [← acceptM_snd, hyb]
  have HYO := Lib.hid (acc_ok hyb hx hc)
  obtain ⟨xc, hxc⟩ : ∃ z, x.cells.toArray = z := ⟨_, rfl⟩
  obtain ⟨yc, hyc⟩ : ∃ z, y.cells.toArray = z := ⟨_, rfl⟩
  have h1 := wa_use HA hyb hx hc
  have h2 := wa_use refAccept_any hyb hx hc
  have h3 := wc_use HCK hcb hx hc
  have h4 := wc_use refCheck_any hcb hx hc
  rw [hxc, hyc] at h1 h2
  rw [hxc] at h3 h4
  rw [hxc]
  have H1 := Lib.hid h1
  have H2 := Lib.hid h2
  have H3 := Lib.hid h3
  have H4 := Lib.hid h4
  have HXC := Lib.hid hxc
  have HYC := Lib.hid hyc
  have HQY := Lib.hid (show ∀ W : World, (Op.equalIn 10000 25 (.agg yc) (.agg yc)).run Try.prog W = .ok true W from fun W => by rw [← hyc]; exact win_eqd y y (acc_ok hyb hx hc) (acc_ok hyb hx hc) W true (by simp))
  have HM := Lib.hid (show Lows w [blkL w.heap.size 25 x.cells, intsL .u16 As ns st] (w.alloc (.cells xc 25)) from ((Lows.nil w).cons (intsL .u16 As ns st) hs).alloc 25 xc x.cells hxc.symm)
  have HF := Lib.hid hf
  clear hyb hcb hyc h1 h2 h3 h4 hx hc hsr hnc hs hxc hf HA HCK
  go_enter Try.func3, Try.ntmps3
  go_upto_region 1 with fail
  generalize w.alloc (.cells xc 25) = w1 at HM ⊢
  go_wp2_with ((with_reducible refine at_op (.load 25 (.tmp 4)) rfl ?_); refine wpList_load_obj rfl 25 (.tmp 4) rfl w.heap.size 0 rfl x.cells (HM.out.blk 0 rfl).all _ Try.underlying25 rfl (win_cellsOf _ HXO.out) ?_; rw [HXC.out])
  refine (H1.out _).mono ?_
  rintro e w2 ⟨rfl, hb⟩
  replace HM := Lib.hid (HM.out.below hb)
  clear hb H1
  have HZ := Lib.hid (Blk.new w2 25 winZ)
  go_upto_region 2 with ((with_reducible refine at_op (.store 25 (.tmp 9) (.tmp 27)) rfl ?_); refine wpList_store_obj rfl 25 (.tmp 9) (.tmp 27) rfl w2.heap.size 0 y.cells rfl (by show Value.agg yc = _; rw [HYC.out]) 25 winZ HZ.out (win_cellsOf _ HYO.out) (by rw [WinM.cells_length HYO.out, winZ_length]; omega) (win_one _) ?_; intro w3 hb4 hg4)
  rw [setL_all winZ _ (by rw [WinM.cells_length HYO.out, winZ_length])] at hb4
  replace HM := Lib.hid (show Lows w [blkL w2.heap.size 25 y.cells, blkL w.heap.size 25 x.cells, intsL .u16 As ns st] w3 from HM.out.stored hg4 hb4)
  clear hb4 hg4 HZ
  generalize w2.heap.size = g9 at HM ⊢
  go_wp2_with ((with_reducible refine at_op (.load 25 (.tmp 4)) rfl ?_); refine wpList_load_obj rfl 25 (.tmp 4) rfl w.heap.size 0 rfl x.cells (HM.out.blk 1 rfl).all _ Try.underlying25 rfl (win_cellsOf _ HXO.out) ?_; rw [HXC.out])
  refine (H2.out _).mono ?_
  rintro e w2 ⟨rfl, hb⟩
  replace HM := Lib.hid (HM.out.below hb)
  clear hb H2
  have HZ := Lib.hid (Blk.new w2 25 winZ)
  go_upto_region 3 with ((with_reducible refine at_op (.store 25 (.tmp 11) (.tmp 33)) rfl ?_); refine wpList_store_obj rfl 25 (.tmp 11) (.tmp 33) rfl w2.heap.size 0 y.cells rfl (by show Value.agg yc = _; rw [HYC.out]) 25 winZ HZ.out (win_cellsOf _ HYO.out) (by rw [WinM.cells_length HYO.out, winZ_length]; omega) (win_one _) ?_; intro w4 hb4 hg4)
  rw [setL_all winZ _ (by rw [WinM.cells_length HYO.out, winZ_length])] at hb4
  replace HM := Lib.hid (show Lows w [blkL w2.heap.size 25 y.cells, blkL g9 25 y.cells, blkL w.heap.size 25 x.cells, intsL .u16 As ns st] w4 from HM.out.stored hg4 hb4)
  clear hb4 hg4 HZ
  generalize w2.heap.size = g11 at HM ⊢
  go_cut [51] (fun v wx => v = .bool false ∧ Lows w [blkL w.heap.size 25 x.cells, intsL .u16 As ns st] wx)
  case first =>
    refine wp_region_held_drew (S := fun W' => Lows w [blkL g11 25 y.cells, blkL g9 25 y.cells, blkL w.heap.size 25 x.cells, intsL .u16 As ns st] W') (by kernel_rfl) (HM.out.drew) (fun hHeld => ?_)
    replace HM := Lib.hid HM.out.drew
    generalize w4.drew = wd1 at HM hHeld ⊢
    refine take_first (v := .agg yc) 0 rfl (by kernel_rfl) (by kernel_rfl) (by kernel_rfl) (fun _ _ _ h => h) (by rw [← HYC.out]; exact yields_load_obj (by rfl) 25 (.tmp 9) rfl g9 0 rfl y.cells (fun w' hb => (Lows.blk hb 1 rfl).all) _ Try.underlying25 rfl (win_cellsOf _ HYO.out)) (by assumption) ?_
    (try simp only [Act.put, List.setIfInBounds_toArray, List.set_cons_zero, List.set_cons_succ])
    refine take_first (v := .agg yc) 1 rfl (by kernel_rfl) (by kernel_rfl) (by kernel_rfl) (fun _ _ _ h => h) (by rw [← HYC.out]; exact yields_load_obj (by rfl) 25 (.tmp 11) rfl g11 0 rfl y.cells (fun w' hb => (Lows.blk hb 0 rfl).all) _ Try.underlying25 rfl (win_cellsOf _ HYO.out)) (by assumption) ?_
    (try simp only [Act.put, List.setIfInBounds_toArray, List.set_cons_zero, List.set_cons_succ])
    refine take_first (v := .bool false) 2 rfl (by kernel_rfl) (by kernel_rfl) (by kernel_rfl) (fun _ _ _ h => h) (.inl ⟨by rfl, fun w _ => run_neq_agg _ _ 25 25 35 36 rfl yc yc true w rfl rfl win_noguard (HQY.out w)⟩) (by assumption) ?_
    (try simp only [Act.put, List.setIfInBounds_toArray, List.set_cons_zero, List.set_cons_succ])
    refine take_first (v := ?_) 3 rfl (by kernel_rfl) (by kernel_rfl) (by kernel_rfl) (fun _ _ _ h => h) (Or.inl ⟨by rfl, ?_⟩) (by assumption) ?_
    rotate_left
    · (intro w hSw; (try dsimp only at hSw); go_simp; try with_reducible rfl)
    (try simp only [Act.put, List.setIfInBounds_toArray, List.set_cons_zero, List.set_cons_succ])
    refine take_first (v := ?_) 4 rfl (by kernel_rfl) (by kernel_rfl) (by kernel_rfl) (fun _ _ _ h => h) (Or.inl ⟨by rfl, ?_⟩) (by assumption) ?_
    rotate_left
    · (intro w hSw; (try dsimp only at hSw); go_simp; try with_reducible rfl)
    (try simp only [Act.put, List.setIfInBounds_toArray, List.set_cons_zero, List.set_cons_succ])
    refine take_first (v := ?_) 5 rfl (by kernel_rfl) (by kernel_rfl) (by kernel_rfl) (fun _ _ _ h => h) (Or.inl ⟨by rfl, ?_⟩) (by assumption) ?_
    rotate_left
    · (intro w hSw; (try dsimp only at hSw); go_simp; try with_reducible rfl)
    (try simp only [Act.put, List.setIfInBounds_toArray, List.set_cons_zero, List.set_cons_succ])
    refine take_first (v := ?_) 6 rfl (by kernel_rfl) (by kernel_rfl) (by kernel_rfl) (fun _ _ _ h => h) (Or.inl ⟨by rfl, ?_⟩) (by assumption) ?_
    rotate_left
    · (intro w hSw; (try dsimp only at hSw); go_simp; try with_reducible rfl)
    (try simp only [Act.put, List.setIfInBounds_toArray, List.set_cons_zero, List.set_cons_succ])
    refine take_first (v := ?_) 7 rfl (by kernel_rfl) (by kernel_rfl) (by kernel_rfl) (fun _ _ _ h => h) (Or.inl ⟨by rfl, ?_⟩) (by assumption) ?_
    rotate_left
    · (intro w hSw; (try dsimp only at hSw); go_simp; try with_reducible rfl)
    (try simp only [Act.put, List.setIfInBounds_toArray, List.set_cons_zero, List.set_cons_succ])
    refine take_first (v := ?_) 8 rfl (by kernel_rfl) (by kernel_rfl) (by kernel_rfl) (fun _ _ _ h => h) (Or.inl ⟨by rfl, ?_⟩) (by assumption) ?_
    rotate_left
    · (intro w hSw; (try dsimp only at hSw); go_simp; try with_reducible rfl)
    (try simp only [Act.put, List.setIfInBounds_toArray, List.set_cons_zero, List.set_cons_succ])
    refine take_first (v := .agg xc) 9 rfl (by kernel_rfl) (by kernel_rfl) (by kernel_rfl) (fun _ _ _ h => h) (by rw [← HXC.out]; exact yields_load_obj (by rfl) 25 (.tmp 4) rfl w.heap.size 0 rfl x.cells (fun w' hb => (Lows.blk hb 2 rfl).all) _ Try.underlying25 rfl (win_cellsOf _ HXO.out)) (by assumption) ?_
    (try simp only [Act.put, List.setIfInBounds_toArray, List.set_cons_zero, List.set_cons_succ])
    refine take_first (v := ?_) 10 rfl (by kernel_rfl) (by kernel_rfl) (by kernel_rfl) (fun _ _ _ h => h) (Or.inl ⟨by rfl, ?_⟩) (by assumption) ?_
    rotate_left
    · (intro w hSw; (try dsimp only at hSw); go_simp; try with_reducible rfl)
    (try simp only [Act.put, List.setIfInBounds_toArray, List.set_cons_zero, List.set_cons_succ])
    refine take_first (v := .agg xc) 12 rfl (by kernel_rfl) (by kernel_rfl) (by kernel_rfl) (fun _ _ _ h => h) (by rw [← HXC.out]; exact yields_load_obj (by rfl) 25 (.tmp 4) rfl w.heap.size 0 rfl x.cells (fun w' hb => (Lows.blk hb 2 rfl).all) _ Try.underlying25 rfl (win_cellsOf _ HXO.out)) (by assumption) ?_
    (try simp only [Act.put, List.setIfInBounds_toArray, List.set_cons_zero, List.set_cons_succ])
    refine take_first (v := ?_) 13 rfl (by kernel_rfl) (by kernel_rfl) (by kernel_rfl) (fun _ _ _ h => h) (Or.inl ⟨by rfl, ?_⟩) (by assumption) ?_
    rotate_left
    · (intro w hSw; (try dsimp only at hSw); go_simp; try with_reducible rfl)
    (try simp only [Act.put, List.setIfInBounds_toArray, List.set_cons_zero, List.set_cons_succ])
    refine step_one 11 rfl (by kernel_rfl) (fun K hK => ?_)
    clear hHeld
    go_simp
    refine (H3.out _).mono ?_
    rintro e wy2 ⟨rfl, hb⟩
    replace HM := Lib.hid (show Lows w [blkL g11 25 y.cells, blkL g9 25 y.cells, blkL w.heap.size 25 x.cells, intsL .u16 As ns st] wy2 from HM.out.below hb)
    clear hb
    go_wp2_with fail
    refine hK.out _ _ (HM.out) (fun hHeld => ?_)
    clear hK K
    (try simp only [Act.put, List.setIfInBounds_toArray, List.set_cons_zero, List.set_cons_succ])
    refine step_one 14 rfl (by kernel_rfl) (fun K hK => ?_)
    clear hHeld
    go_simp
    refine (H4.out _).mono ?_
    rintro e wy3 ⟨rfl, hb⟩
    replace HM := Lib.hid (show Lows w [blkL g11 25 y.cells, blkL g9 25 y.cells, blkL w.heap.size 25 x.cells, intsL .u16 As ns st] wy3 from HM.out.below hb)
    clear hb
    go_wp2_with fail
    refine hK.out _ _ (HM.out) (fun hHeld => ?_)
    clear hK K
    (try simp only [Act.put, List.setIfInBounds_toArray, List.set_cons_zero, List.set_cons_succ])
    refine take_first (v := ?_) 15 rfl (by kernel_rfl) (by kernel_rfl) (by kernel_rfl) (fun _ _ _ h => h) (Or.inl ⟨by rfl, ?_⟩) (by assumption) ?_
    rotate_left
    · (intro w hSw; (try dsimp only at hSw); go_simp; try with_reducible rfl)
    (try simp only [Act.put, List.setIfInBounds_toArray, List.set_cons_zero, List.set_cons_succ])
    refine take_first (v := ?_) 16 rfl (by kernel_rfl) (by kernel_rfl) (by kernel_rfl) (fun _ _ _ h => h) (Or.inl ⟨by rfl, ?_⟩) (by assumption) ?_
    rotate_left
    · (intro w hSw; (try dsimp only at hSw); go_simp; try with_reducible rfl)
    (try simp only [Act.put, List.setIfInBounds_toArray, List.set_cons_zero, List.set_cons_succ])
    refine wpAnyH_done (by kernel_rfl) ?_ _
    clear hHeld
    have HM3 := Lib.hid (show Lows w [blkL w.heap.size 25 x.cells, intsL .u16 As ns st] wy3 from (HM.out.tail 0).tail 0)
    clear HM
    go_wp2_with fail
    go_meet
    exact ⟨rfl, HM3.out⟩
  case rest =>
    obtain ⟨r3, hr3⟩ : ∃ z, f % 300 = z := ⟨_, rfl⟩
    obtain ⟨f4, hf4⟩ : ∃ z, 18446744073709551615 - r3 = z := ⟨_, rfl⟩
    have hff := HF.out
    have e1 : (f : Int) % 300 = (r3 : Int) := by omega
    have w1' : IntKind.u64.wrap (r3 : Int) = (r3 : Int) := by rw [IntKind.wrap_u64]; omega
    have e2 : 18446744073709551615 - (r3 : Int) = (f4 : Int) := by omega
    have w2' : IntKind.u64.wrap (f4 : Int) = (f4 : Int) := by rw [IntKind.wrap_u64]; omega
    have HO2 := Lib.hid (show (WinM.mk true f [0, 0, 0, 0]).ok from ⟨HF.out, rfl, by simp⟩)
    have HO3 := Lib.hid (show (WinM.mk true f4 [0, 0, 0, 0]).ok from ⟨by show f4 < 18446744073709551616; omega, rfl, by simp⟩)
    obtain ⟨c2, hc2⟩ : ∃ z, (WinM.mk true f [0, 0, 0, 0]).cells.toArray = z := ⟨_, rfl⟩
    obtain ⟨c3, hc3⟩ : ∃ z, (WinM.mk true f4 [0, 0, 0, 0]).cells.toArray = z := ⟨_, rfl⟩
    have HB2 := Lib.hid (show Try.prog.built 25 [(0, .bool true), (1, .int .u64 (f : Int))] = some c2 from by rw [← hc2]; kernel_rfl)
    have HB3 := Lib.hid (show Try.prog.built 25 [(0, .bool true), (1, .int .u64 (f4 : Int))] = some c3 from by rw [← hc3]; kernel_rfl)
    have HROWS := Lib.hid (wins4_eq HXC.out (show win0.cells.toArray = #[.bool false, .int .u64 0, .int .u64 0, .int .u64 0, .int .u64 0, .int .u64 0] from rfl) hc2 hc3)
    have HRL := Lib.hid (show ∀ r ∈ winsV [x, win0, ⟨true, f, [0, 0, 0, 0]⟩, ⟨true, f4, [0, 0, 0, 0]⟩], r.length = 6 from fun r hr => by
      obtain ⟨q, hq, rfl⟩ := List.mem_map.1 hr
      simp only [List.mem_cons, List.not_mem_nil, or_false] at hq
      rcases hq with rfl | rfl | rfl | rfl
      · exact WinM.cells_length HXO.out
      · rfl
      · exact WinM.cells_length HO2.out
      · exact WinM.cells_length HO3.out)
    have HXS := Lib.hid (show ∀ q, q < 4 → ∃ a, a.ok ∧ ([x, win0, ⟨true, f, [0, 0, 0, 0]⟩, ⟨true, f4, [0, 0, 0, 0]⟩] : List WinM)[q]? = some a from fun q hq => by
      rcases (show q = 0 ∨ q = 1 ∨ q = 2 ∨ q = 3 by omega) with rfl | rfl | rfl | rfl
      · exact ⟨_, HXO.out, rfl⟩
      · exact ⟨_, win0_ok, rfl⟩
      · exact ⟨_, HO2.out, rfl⟩
      · exact ⟨_, HO3.out, rfl⟩)
    obtain ⟨iw, hiw, hiz, his⟩ := winInfo
    have HWI := Lib.hid (And.intro hiw (And.intro hiz his))
    obtain ⟨mt, hmt⟩ : ∃ z, min ns 40 = z := ⟨_, rfl⟩
    have hmin : min (ns : Int) 40 = (mt : Int) := by omega
    obtain ⟨Aq, hAt⟩ : ∃ z, addrK As 0 cs 1 = z := ⟨_, rfl⟩
    obtain ⟨tt, htt⟩ : ∃ z, st.take mt = z := ⟨_, rfl⟩
    have hslr := ints_h Try.underlying26 u16Info As (n := ns) cs mt (by omega) HNC.out.1
    rw [hAt] at hslr
    have HAT := Lib.hid (And.intro hAt htt)
    have HMT := Lib.hid (show mt ≤ ns ∧ mt ≤ 40 from by omega)
    have HSL := Lib.hid hslr
    have HMIN := Lib.hid hmin
    have HTR := Lib.hid (show ∀ z ∈ tt, 0 ≤ z ∧ z < 65536 from fun z hz => HSR.out z (by rw [← htt] at hz; exact List.mem_of_mem_take hz))
    clear hr3 hf4 hff hc2 hc3 hiw hiz his hmt hAt htt hslr hmin
    obtain ⟨rfl, hcut⟩ := hcut
    have HMX := Lib.hid hcut
    clear hcut HM
    have HM := HMX
    go_wp2_with (first | ((with_reducible refine at_op (.load 25 (.tmp 4)) rfl ?_); refine wpList_load_obj rfl 25 (.tmp 4) rfl w.heap.size 0 rfl x.cells (HM.out.blk 0 rfl).all _ Try.underlying25 rfl (win_cellsOf _ HXO.out) ?_; rw [HXC.out]) | (refine wpList_build_as rfl 25 [] rfl #[.bool false, .int .u64 0, .int .u64 0, .int .u64 0, .int .u64 0, .int .u64 0] ?_ ?_; kernel_rfl) | (refine wpList_build_as rfl 25 [(0, .const (.bool true)), (1, .tmp 54)] rfl c2 ?_ ?_; exact HB2.out) | (refine wpList_build_as rfl 25 [(0, .const (.bool true)), (1, .tmp 58)] rfl c3 ?_ ?_; exact HB3.out) | (refine wpList_buildRows rfl 30 25 4 [(0, .tmp 52), (1, .tmp 53), (2, .tmp 55), (3, .tmp 59)] rfl (winsV [x, win0, ⟨true, f, [0, 0, 0, 0]⟩, ⟨true, f4, [0, 0, 0, 0]⟩]) rfl HROWS.out 6 Try.underlying30 iw HWI.out.1 HWI.out.2.2 _ HWI.out.2.1 (by omega) (by omega) (by omega) HRL.out ?_))
    have HM5 := Lib.hid (HM.out.alloc 25 (winsV [x, win0, ⟨true, f, [0, 0, 0, 0]⟩, ⟨true, f4, [0, 0, 0, 0]⟩]).flatten.toArray (winsV [x, win0, ⟨true, f, [0, 0, 0, 0]⟩, ⟨true, f4, [0, 0, 0, 0]⟩]).flatten rfl)
    clear HM
    generalize wc.alloc (.cells (winsV [x, win0, ⟨true, f, [0, 0, 0, 0]⟩, ⟨true, f4, [0, 0, 0, 0]⟩]).flatten.toArray 25) = w5 at HM5 ⊢
    generalize wc.heap.size = gs at HM5 ⊢
    have HM := Lib.hid (show Lows w [blkL gs 25 (winsV [x, win0, ⟨true, f, [0, 0, 0, 0]⟩, ⟨true, f4, [0, 0, 0, 0]⟩]).flatten, blkL w.heap.size 25 x.cells, intsL .u16 As ns st] w5 from HM5.out)
    have HI := Lib.hid (show ∀ q, q < 4 → ∃ a : WinM, a.ok ∧ ∀ W, Lows w [blkL gs 25 (winsV [x, win0, ⟨true, f, [0, 0, 0, 0]⟩, ⟨true, f4, [0, 0, 0, 0]⟩]).flatten, blkL w.heap.size 25 x.cells, intsL .u16 As ns st] W → At W gs (q * 6) a.cells from fun q hq => by
      obtain ⟨a, ha, hx⟩ := HXS.out q hq
      refine ⟨a, ha, fun W h => blk_at (rest := []) (by rw [List.append_nil]; exact h.blk 0 rfl) HRL.out ?_⟩
      rw [winsV, List.getElem?_map, hx, Option.map_some])
    clear HM5 HXS
    go_loopw [62] (fun i wr => ∃ q : Nat, q ≤ 4 ∧ i = .int .i64 (q : Int) ∧ Lows w [blkL gs 25 (winsV [x, win0, ⟨true, f, [0, 0, 0, 0]⟩, ⟨true, f4, [0, 0, 0, 0]⟩]).flatten, blkL w.heap.size 25 x.cells, intsL .u16 As ns st] wr) (fun i _ => 4 - (intOf i).toNat)
    case atStart => exact ⟨0, Nat.zero_le _, rfl, HM.out⟩
    case round =>
      clear HM
      obtain ⟨q, hq, rfl, hM⟩ := hrel
      have HM := Lib.hid hM
      clear hM
      by_cases hq4 : q < 4
      · have d1 : decide ((q : Int) < 4) = true := by simp; omega
        obtain ⟨a0, ha0, hat⟩ := HI.out q hq4
        have HA0O := Lib.hid ha0
        obtain ⟨a0c, ha0c⟩ : ∃ z, a0.cells.toArray = z := ⟨_, rfl⟩
        have HA0C := Lib.hid ha0c
        have HLA := Lib.hid (hat wr HM.out)
        have HLA2 := Lib.hid (show At wr gs (0 + q * 6) a0.cells from by rw [Nat.zero_add]; exact HLA.out)
        clear ha0 hat ha0c
        have HZ := Lib.hid (Blk.new wr 25 winZ)
        go_upto_region 8 with (first | (refine wpList_load_obj rfl 25 (.tmp 64) rfl gs _ rfl a0.cells HLA.out _ Try.underlying25 rfl (win_cellsOf _ HA0O.out) ?_; rw [HA0C.out]) | (refine wpList_load_obj rfl 25 (.tmp 64) rfl gs _ rfl a0.cells HLA2.out _ Try.underlying25 rfl (win_cellsOf _ HA0O.out) ?_; rw [HA0C.out]) | ((with_reducible refine at_op (.store 25 (.tmp 14) (.tmp 65)) rfl ?_); refine wpList_store_obj rfl 25 (.tmp 14) (.tmp 65) rfl wr.heap.size 0 a0.cells rfl (by show Value.agg a0c = _; rw [HA0C.out]) 25 winZ HZ.out (win_cellsOf _ HA0O.out) (by rw [WinM.cells_length HA0O.out, winZ_length]; omega) (win_one _) ?_; intro w6 hb4 hg4))
        rw [setL_all winZ _ (by rw [WinM.cells_length HA0O.out, winZ_length])] at hb4
        replace HM := Lib.hid (show Lows w [blkL wr.heap.size 25 a0.cells, blkL gs 25 (winsV [x, win0, ⟨true, f, [0, 0, 0, 0]⟩, ⟨true, f4, [0, 0, 0, 0]⟩]).flatten, blkL w.heap.size 25 x.cells, intsL .u16 As ns st] w6 from HM.out.stored hg4 hb4)
        clear hb4 hg4 HZ HLA HLA2 d1
        generalize wr.heap.size = ga at HM ⊢
        generalize hwA : w6 = wA at HM ⊢
        clear hwA
        have HZ := Lib.hid (Blk.new wA 25 winZ)
        go_upto_region 9 with (first | ((with_reducible refine at_op (.load 25 (.tmp 14)) rfl ?_); refine wpList_load_obj rfl 25 (.tmp 14) rfl ga 0 rfl a0.cells (HM.out.blk 0 rfl).all _ Try.underlying25 rfl (win_cellsOf _ HA0O.out) ?_; rw [HA0C.out]) | ((with_reducible refine at_op (.store 25 (.tmp 15) (.tmp 66)) rfl ?_); refine wpList_store_obj rfl 25 (.tmp 15) (.tmp 66) rfl wA.heap.size 0 a0.cells rfl (by show Value.agg a0c = _; rw [HA0C.out]) 25 winZ HZ.out (win_cellsOf _ HA0O.out) (by rw [WinM.cells_length HA0O.out, winZ_length]; omega) (win_one _) ?_; intro w7 hb4 hg4))
        rw [setL_all winZ _ (by rw [WinM.cells_length HA0O.out, winZ_length])] at hb4
        have hbf := below_fresh hg4
        obtain ⟨gb, hgb⟩ : ∃ z, wA.heap.size = z := ⟨_, rfl⟩
        rw [hgb] at hb4 ⊢
        obtain ⟨B, hB⟩ : ∃ z, wA.heap.size = z := ⟨_, rfl⟩
        rw [hB] at hbf
        have HGB := Lib.hid (show B ≤ gb by omega)
        have HBA := Lib.hid (show B ≤ wA.heap.size by omega)
        have HB := Lib.hid hB
        have H0 := Lib.hid (And.intro hb4 hbf)
        have hslr := HSL.out
        have hmin := HMIN.out
        clear hb4 hbf hg4 HZ hgb hB
        go_wp2_with (refine wpList_min_int rfl (.tmp 69) (.const (.int .i64 40)) #[3, 3] rfl (ns : Int) 40 (mt : Int) rfl rfl hmin ?_)
        clear hslr hmin
        go_loopw [73] (fun i wz => ∃ (j : Nat) (a : WinM), j ≤ mt ∧ i = .int .i64 (j : Int) ∧ a.ok ∧ Blk wz gb 25 a.cells ∧ Below B wA wz) (fun i _ => mt - (intOf i).toNat)
        case atStart => exact ⟨0, a0, Nat.zero_le _, rfl, HA0O.out, H0.out.1, H0.out.2⟩
        case round =>
          clear H0
          obtain ⟨j, a, hj, rfl, hao, hab, hbl⟩ := hrel
          have HAO := Lib.hid hao
          have HBL := Lib.hid hbl
          have hl2 := HM.out.below (show Below wA.heap.size wA wr from HB.out ▸ hbl)
          by_cases hjn : j < mt
          · have d1 : decide ((j : Int) < (mt : Int)) = true := by simp; omega
            have hm40 := HMT.out.2
            have hlt : IntRd .u16 wr wr.heap.size Aq mt tt := by
              rw [← HAT.out.1, ← HAT.out.2]
              exact IntRd.ahead (hl2.get (f := intsL .u16 As ns st) 3 rfl) mt cs HMT.out.1
            have HTL := Lib.hid hlt.len
            have HMN := Lib.hid (show Lows wr [blkL gb 25 a.cells, intsL .u16 Aq mt tt, blkL gs 25 (winsV [x, win0, ⟨true, f, [0, 0, 0, 0]⟩, ⟨true, f4, [0, 0, 0, 0]⟩]).flatten, blkL w.heap.size 25 x.cells, intsL .u16 As ns st] wr from ⟨fun f hf => by
              simp only [List.mem_cons, List.not_mem_nil, or_false] at hf
              rcases hf with rfl | rfl | rfl | rfl | rfl
              · exact hab
              · exact hlt
              · exact hl2.get 1 rfl
              · exact hl2.get 2 rfl
              · exact hl2.get 3 rfl, Below.refl _ _⟩)
            obtain ⟨ac, hac⟩ : ∃ z, a.cells.toArray = z := ⟨_, rfl⟩
            have HAC := Lib.hid hac
            clear hab hbl hl2 hlt hao hac
            have HMO := HM
            clear HM
            have HM := HMN
            clear HMN
            obtain ⟨s, hs⟩ : ∃ s, tt[j]? = some s := ⟨tt[j]'(by rw [HTL.out]; exact hjn), List.getElem?_eq_getElem _⟩
            obtain ⟨bt, ot, rfl⟩ := (HM.out.get (f := intsL .u16 Aq mt tt) 1 rfl).addr (by omega)
            have hft := (IntRd.at (HM.out.get (f := intsL .u16 (some ⟨bt, ot, none⟩) mt tt) 1 rfl) j s hs).2
            have hsr := HTR.out s (List.mem_of_getElem? hs)
            obtain ⟨sn, hsn⟩ : ∃ n : Nat, s = (n : Int) := ⟨s.toNat, by omega⟩
            subst hsn
            clear hs
            go_upto_region 12 with fail
            clear hft
            have hsn2 : sn < 65536 := by omega
            clear hsr
            go_wp2_with ((with_reducible refine at_op (.load 25 (.tmp 15)) rfl ?_); refine wpList_load_obj rfl 25 (.tmp 15) rfl gb 0 rfl a.cells (HM.out.blk 0 rfl).all _ Try.underlying25 rfl (win_cellsOf _ HAO.out) ?_; rw [HAC.out])
            have hnr := wi_near_any a HAO.out sn hsn2
            rw [HAC.out] at hnr
            refine (hnr _).mono ?_
            rintro e w7 ⟨n, hn, rfl, hb⟩
            replace HM := Lib.hid (HM.out.below hb)
            clear hb hnr hsn2
            obtain ⟨y, b, hyb⟩ : ∃ y b, acceptM a n = (y, b) := ⟨_, _, rfl⟩
            have hcb : checkM a n = b := by rw [← acceptM_snd, hyb]
            have HYO := Lib.hid (acc_ok hyb HAO.out hn)
            obtain ⟨yc, hyc⟩ : ∃ z, y.cells.toArray = z := ⟨_, rfl⟩
            have h1 := wa_use HAH.out hyb HAO.out hn
            have h2 := wa_use refAccept_any hyb HAO.out hn
            have h3 := wc_use HCH.out hcb HAO.out hn
            rw [HAC.out, hyc] at h1 h2
            rw [HAC.out] at h3
            have HQY := Lib.hid (show ∀ W : World, (Op.equalIn 10000 25 (.agg yc) (.agg yc)).run Try.prog W = .ok true W from fun W => by rw [← hyc]; exact win_eqd y y HYO.out HYO.out W true (by simp))
            have H1 := Lib.hid h1
            have H2 := Lib.hid h2
            have H3 := Lib.hid h3
            have HYC := Lib.hid hyc
            clear h1 h2 h3 hyb hcb hyc hn
            go_wp2_with ((with_reducible refine at_op (.load 25 (.tmp 15)) rfl ?_); refine wpList_load_obj rfl 25 (.tmp 15) rfl gb 0 rfl a.cells (HM.out.blk 0 rfl).all _ Try.underlying25 rfl (win_cellsOf _ HAO.out) ?_; rw [HAC.out])
            refine (H1.out _).mono ?_
            rintro e w8 ⟨rfl, hb⟩
            replace HM := Lib.hid (HM.out.below hb)
            clear hb H1
            have HZ := Lib.hid (Blk.new w8 25 winZ)
            go_upto_region 14 with ((with_reducible refine at_op (.store 25 (.tmp 19) (.tmp 84)) rfl ?_); refine wpList_store_obj rfl 25 (.tmp 19) (.tmp 84) rfl w8.heap.size 0 y.cells rfl (by show Value.agg yc = _; rw [HYC.out]) 25 winZ HZ.out (win_cellsOf _ HYO.out) (by rw [WinM.cells_length HYO.out, winZ_length]; omega) (win_one _) ?_; intro w9 hb4 hg4)
            rw [setL_all winZ _ (by rw [WinM.cells_length HYO.out, winZ_length])] at hb4
            replace HM := Lib.hid (show Lows wr [blkL w8.heap.size 25 y.cells, blkL gb 25 a.cells, intsL .u16 (some ⟨bt, ot, none⟩) mt tt, blkL gs 25 (winsV [x, win0, ⟨true, f, [0, 0, 0, 0]⟩, ⟨true, f4, [0, 0, 0, 0]⟩]).flatten, blkL w.heap.size 25 x.cells, intsL .u16 As ns st] w9 from HM.out.stored hg4 hb4)
            clear hb4 hg4 HZ
            generalize w8.heap.size = gx at HM ⊢
            go_wp2_with ((with_reducible refine at_op (.load 25 (.tmp 15)) rfl ?_); refine wpList_load_obj rfl 25 (.tmp 15) rfl gb 0 rfl a.cells (HM.out.blk 1 rfl).all _ Try.underlying25 rfl (win_cellsOf _ HAO.out) ?_; rw [HAC.out])
            refine (H2.out _).mono ?_
            rintro e w10 ⟨rfl, hb⟩
            replace HM := Lib.hid (HM.out.below hb)
            clear hb H2
            have HZ := Lib.hid (Blk.new w10 25 winZ)
            go_upto_region 15 with ((with_reducible refine at_op (.store 25 (.tmp 21) (.tmp 90)) rfl ?_); refine wpList_store_obj rfl 25 (.tmp 21) (.tmp 90) rfl w10.heap.size 0 y.cells rfl (by show Value.agg yc = _; rw [HYC.out]) 25 winZ HZ.out (win_cellsOf _ HYO.out) (by rw [WinM.cells_length HYO.out, winZ_length]; omega) (win_one _) ?_; intro w11 hb4 hg4)
            rw [setL_all winZ _ (by rw [WinM.cells_length HYO.out, winZ_length])] at hb4
            replace HM := Lib.hid (show Lows wr [blkL w10.heap.size 25 y.cells, blkL gx 25 y.cells, blkL gb 25 a.cells, intsL .u16 (some ⟨bt, ot, none⟩) mt tt, blkL gs 25 (winsV [x, win0, ⟨true, f, [0, 0, 0, 0]⟩, ⟨true, f4, [0, 0, 0, 0]⟩]).flatten, blkL w.heap.size 25 x.cells, intsL .u16 As ns st] w11 from HM.out.stored hg4 hb4)
            clear hb4 hg4 HZ
            generalize w10.heap.size = gy at HM ⊢
            go_wp2_with (first | ((with_reducible refine at_op (.load 25 (.tmp 19)) rfl ?_); refine wpList_load_obj rfl 25 (.tmp 19) rfl gx 0 rfl y.cells (HM.out.blk 1 rfl).all _ Try.underlying25 rfl (win_cellsOf _ HYO.out) ?_; rw [HYC.out]) | ((with_reducible refine at_op (.load 25 (.tmp 21)) rfl ?_); refine wpList_load_obj rfl 25 (.tmp 21) rfl gy 0 rfl y.cells (HM.out.blk 0 rfl).all _ Try.underlying25 rfl (win_cellsOf _ HYO.out) ?_; rw [HYC.out]) | (refine wpList_load_obj_g (by rfl) 25 (.tmp 15) rfl gb 0 rfl a.cells (HM.out.blk 2 rfl).all _ Try.underlying25 rfl (win_cellsOf _ HAO.out) ?_; rw [HAC.out]) | (refine wpList_neq_agg (by rfl) 25 25 92 93 rfl yc yc true rfl rfl win_noguard (HQY.out _) ?_))
            refine (H3.out _).mono ?_
            rintro e w12 ⟨rfl, hb⟩
            replace HM := Lib.hid (HM.out.below hb)
            clear hb H3
            go_wp2_with (first | ((with_reducible refine at_op (.load 25 (.tmp 19)) rfl ?_); refine wpList_load_obj rfl 25 (.tmp 19) rfl gx 0 rfl y.cells (HM.out.blk 1 rfl).all _ Try.underlying25 rfl (win_cellsOf _ HYO.out) ?_; rw [HYC.out]) | (refine wpList_store_obj rfl 25 (.tmp 15) (.tmp 107) rfl gb 0 y.cells rfl (by show Value.agg yc = _; rw [HYC.out]) 25 a.cells (HM.out.blk 2 rfl) (win_cellsOf _ HYO.out) (by rw [WinM.cells_length HYO.out, WinM.cells_length HAO.out]; omega) (win_one _) ?_; intro w13 hb13 hg13))
            rw [setL_all _ _ (by rw [WinM.cells_length HYO.out, WinM.cells_length HAO.out])] at hb13
            have hl13 : Below B wA w13 := (HBL.out.trans (HM.out.bel.mono (Nat.le_trans HBA.out HBL.out.size))).grown hg13 (Nat.le_trans HBA.out (HBL.out.trans (HM.out.bel.mono (Nat.le_trans HBA.out HBL.out.size))).size) (fun k hk => by injection hk with hk; have := HGB.out; omega)
            go_roundw
            case rel => exact ⟨j + 1, y, by omega, by go_num, HYO.out, hb13, hl13⟩
            case measure => simp [intOf]; omega
          · obtain rfl : mt = j := by omega
            have d1 : decide ((mt : Int) < (mt : Int)) = false := by simp
            have HF9 := Lib.hid (hl2.tail 0)
            clear hab hbl hl2 hao HM
            go_wp2_with fail
            go_roundw
            case rel => exact ⟨q + 1, by omega, by go_num, HF9.out⟩
            case measure => simp [intOf]; omega
      · obtain rfl : q = 4 := by omega
        go_wp2_with fail
        refine (HBG.out _).mono ?_
        rintro e wv ⟨rfl, hb⟩
        have HFF := Lib.hid ((HM.out.below hb).bel)
        clear hb HM
        go_wp2_with fail
        go_ret
        exact ⟨rfl, HFF.out⟩
end Go.Proofs.Yteidabgkidablaa
