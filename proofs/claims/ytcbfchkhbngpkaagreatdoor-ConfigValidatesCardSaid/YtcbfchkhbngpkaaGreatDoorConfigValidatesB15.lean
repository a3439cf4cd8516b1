/-
  The walk of ConfigValidates. How an argument that is a configuration is opened. What a row's condition on package-level variables gives: the blocks of listed arrays of numbers, one deep and two deep. The library's package-level variables that layer 13 comes to, out of a row's condition. A row that lists variables, its walk being given the world's shape too. ConfigValidates returns true for every input: the walk, over what the program's functions do. No statement is proved here.
-/
import Derived.RegionTactic
import Derived.Deep.DeepCutAuto
import Derived.ProofKit
import Derived.LaidMore
import Derived.OpenShut
import Derived.Stop.Joined
import Derived.MakeChecks
import Derived.Shelf.Vars
import Derived.Test.YtcbfchkhbngpkaaGreatDoorRows
import Derived.Handed
import Derived.LaidLaws
import Derived.Test.YtcbfchkhbngpkaaGreatDoorConfigValidatesB14
namespace Go.Proofs.YtcbfchkhbngpkaaGreatDoor
open Go.RowKit

/-- what is known of a configuration that is tried -/
structure CfGood (y : ConfM) (n d : Nat) : Prop where
  ok : y.ok
  few : n ≤ 20
  al : ∀ p ∈ y.peers, p.al.length ≤ 20
  cap : n ≤ d
theorem conf4_eq {a b c d : ConfM} {u v s t : Value} {x y z k : Array Value} (h1 : (a.cells u).toArray = x) (h2 : (b.cells v).toArray = y) (h3 : (c.cells s).toArray = z) (h4 : (d.cells t).toArray = k) : [(0, Value.agg x), (1, Value.agg y), (2, Value.agg z), (3, Value.agg k)] = ([a.cells u, b.cells v, c.cells s, d.cells t].zipIdx 0).map fun x => (x.2, Value.agg x.1.toArray) := by
  subst h1 h2 h3 h4
  rfl
theorem conf4_len {a b c d : ConfM} {u v s t : Value} (h1 : a.ok) (h2 : b.ok) (h3 : c.ok) (h4 : d.ok) : ∀ r ∈ [a.cells u, b.cells v, c.cells s, d.cells t], r.length = 34 := by
  intro r hr
  simp only [List.mem_cons, List.not_mem_nil, or_false] at hr
  rcases hr with rfl | rfl | rfl | rfl
  · exact ConfM.cells_length h1 _
  · exact ConfM.cells_length h2 _
  · exact ConfM.cells_length h3 _
  · exact ConfM.cells_length h4 _
def peL (A : Option Addr) (n : Nat) (ps : List PeerM) : Low := ⟨fun W => PeRd W W.heap.size A n ps, fun _ _ hb h => (h.below hb).mono hb.size⟩
def confZ : List Value := (List.replicate 32 (0 : UInt8)).map u8v ++ [.int .i64 0, .slice none 0 0]
theorem confZ_length : confZ.length = 34 := rfl
theorem confInfo : ∃ i, Tryz.prog.info? 27 = some i ∧ i.zero = some (.agg confZ.toArray) ∧ i.size = 34 := by
  have h : (Tryz.prog.info? 27).map (fun i => (i.zero, i.size)) = some (some (.agg confZ.toArray), 34) := by kernel_rfl
  cases hi : Tryz.prog.info? 27 with
  | none => rw [hi] at h; cases h
  | some i =>
    rw [hi] at h
    simp only [Option.map_some, Option.some.injEq, Prod.mk.injEq] at h
    exact ⟨i, rfl, h.1, h.2⟩
theorem i64_and65535 (q : Int) : inI64 (bits BinOp.and IntKind.i64 q 65535) := by
  have h127 : (BitVec.ofInt 64 (65535 : Int)).toNat = 2 ^ 16 - 1 := by decide
  have key : (BitVec.ofInt 64 q &&& BitVec.ofInt 64 (65535 : Int)).toNat < 65536 := by
    rw [BitVec.toNat_and, h127, Nat.and_two_pow_sub_one_eq_mod]
    exact Nat.mod_lt _ (by decide)
  show inI64 (IntKind.i64.wrap ((BitVec.ofInt 64 q &&& BitVec.ofInt 64 (65535 : Int)).toNat : Nat))
  rw [IntWalk.i64_in _ (by omega)]
  exact ⟨by omega, by omega⟩
set_option maxRecDepth 100000 in
set_option maxHeartbeats 8000000 in
theorem cg_validates_walk (w : World) (A : Option Addr) (n c : Nat) (l : List UInt8) (what at_ : Nat) (q : Int) (c0 : ConfM) (A0 : Option Addr) (n0 d0 : Nat) (hnc : n ≤ c) (hcm : c ≤ maxLen) (hr : Rd w w.heap.size A n l) (hwh : what ≤ 255) (hat : at_ ≤ 255) (hq : inI64 q) (h0 : c0.ok ∧ n0 ≤ d0) (hp0 : PeRd w w.heap.size A0 n0 c0.peers) (hlv : LvCf w) :
    Calls Tryz.prog 3 #[.slice A n c, .int .u8 (what : Int), .int .u8 (at_ : Int), .int .i64 q, .agg (c0.cells (.slice A0 n0 d0)).toArray] w fun e w' => e = .returned (.bool true) ∧ Below w.heap.size w w' := by
  have HLV := Lib.hid hlv
  have HQ := Lib.hid hq
  have HO0 := Lib.hid h0.1
  have HCT0 := fun W (h : PeRd W W.heap.size A0 n0 c0.peers) => cut_any c0 A0 n0 d0 W.heap.size [] W (Nat.le_refl _) (by simp) h0.1 h h0.2
  have HP0 := Lib.hid hp0
  obtain ⟨icf, hci, hcz, hcs⟩ := confInfo
  have HCI := Lib.hid (And.intro hci (And.intro hcz hcs))
  obtain ⟨c0c, hc0⟩ : ∃ z, (c0.cells (.slice A0 n0 d0)).toArray = z := ⟨_, rfl⟩
  rw [hc0] at HCT0
  have HCT := Lib.hid HCT0
  have HC0 := Lib.hid hc0
  rw [hc0]
  obtain ⟨k, hk⟩ : ∃ z, min n 200 = z := ⟨_, rfl⟩
  have HW := Lib.hid (And.intro hwh hat)
  have HRD := Lib.hid hr
  have HK := Lib.hid (show k ≤ n ∧ k ≤ 200 from by omega)
  have hba := (Below.refl w.heap.size w).alloc (Nat.le_refl _) (.cells c0c 27)
  have HM0 := Lib.hid (show Lows w [blkL w.heap.size 27 (c0.cells (.slice A0 n0 d0)), peL A0 n0 c0.peers] (w.alloc (.cells c0c 27)) from ((Lows.nil w).cons (peL A0 n0 c0.peers) hp0).alloc 27 c0c _ hc0.symm)
  clear hlv hq h0 hp0 HCT0 hci hcz hcs hc0 hr hwh hat
  go_enter Tryz.func3, Tryz.ntmps3
  go_upto_region 1 with fail
  have HSZ := Lib.hid (show (w.alloc (.cells c0c 27)).heap.size = w.heap.size + 1 from by simp)
  generalize w.alloc (.cells c0c 27) = w1 at HM0 HSZ hba ⊢
  have HRD1 := Lib.hid ((HRD.out.below hba).take HK.out.1)
  clear hba
  go_wp2_with fail
  refine (caseNew_any A n c 200 k (by omega) hnc hcm hk w1).mono ?_
  rintro e w2 ⟨rfl, hmem⟩
  have hcod : CodesAt w2 w1.heap.size A k c (l.take k) w.heap.size 0 := ⟨hmem.blk 0 rfl, HRD1.out.below (hmem.bel.mono (by rw [HSZ.out]; omega)), by rw [HSZ.out]; omega, (hmem.blk 0 rfl).lt, by have := HK.out.2; omega, Nat.zero_le _⟩
  have HCOD := Lib.hid hcod
  have HMB := Lib.hid hmem.bel
  clear hmem hcod hk
  go_wp2_with fail
  refine (caseConfig_any w1.heap.size A k c (l.take k) w.heap.size 0 4 (by omega) w2 HCOD.out).mono ?_
  rintro e w3 ⟨x, Ax, cx, rfl, hxo, hxv, hxl, hxa, hxc, hxp, hb⟩
  have hbw := HMB.out.trans (hb.mono (Nat.le_refl _))
  have hlow : Lows w [blkL w.heap.size 27 (c0.cells (.slice A0 n0 d0)), peL A0 n0 c0.peers] w3 := HM0.out.below hbw
  obtain ⟨nx, hnx⟩ : ∃ z, x.peers.length = z := ⟨_, rfl⟩
  rw [hnx] at hxl hxc hxp ⊢
  have HM1 := Lib.hid (show Lows w [peL Ax nx x.peers, blkL w.heap.size 27 (c0.cells (.slice A0 n0 d0)), peL A0 n0 c0.peers] w3 from hlow.cons (peL Ax nx x.peers) hxp)
  have HXO := Lib.hid hxo
  have HVX := Lib.hid (show (validE x : Int) = 0 from by rw [hxv]; rfl)
  have HGX := Lib.hid (show CfGood x nx cx from ⟨hxo, by omega, fun p hp => by have := hxa p hp; omega, hxc⟩)
  have hs1 := fun W (h : PeRd W W.heap.size Ax nx x.peers) => spoilt_any x Ax nx cx what at_ q HQ.out HW.out.1 HW.out.2 W hxo h hxc
  have hs2 := fun W (h : PeRd W W.heap.size Ax nx x.peers) => spoilt_any x Ax nx cx what at_ (bits BinOp.and IntKind.i64 q 65535) (i64_and65535 q) HW.out.1 HW.out.2 W hxo h hxc
  obtain ⟨xc, hxcc⟩ : ∃ z, (x.cells (.slice Ax nx cx)).toArray = z := ⟨_, rfl⟩
  rw [hxcc] at hs1 hs2 ⊢
  obtain ⟨q2, hq2⟩ : ∃ z, bits BinOp.and IntKind.i64 q 65535 = z := ⟨_, rfl⟩
  rw [hq2] at hs2
  have HXC := Lib.hid hxcc
  have HS1 := Lib.hid hs1
  have HS2 := Lib.hid hs2
  clear hbw hlow hnx hxo hxv hxl hxa hxc hxp hb hs1 hs2 hxcc HM0 HMB HCOD HRD HRD1 HSZ HK HP0
  have HZ := Lib.hid (Blk.new w3 27 confZ)
  go_upto_region 2 with ((with_reducible refine at_op (.store 27 (.tmp 11) (.tmp 20)) rfl ?_); refine wpList_store_obj rfl 27 (.tmp 11) (.tmp 20) rfl w3.heap.size 0 (x.cells (.slice Ax nx cx)) rfl (by show Value.agg xc = _; rw [HXC.out]) 27 confZ HZ.out (conf_cellsOf x HXO.out _) (by rw [ConfM.cells_length HXO.out, confZ_length]; omega) (conf_one _ _ _ _) ?_; intro w4 hb4 hg4)
  rw [setL_all confZ _ (by rw [ConfM.cells_length HXO.out, confZ_length])] at hb4
  have HM := Lib.hid (show Lows w [blkL w3.heap.size 27 (x.cells (.slice Ax nx cx)), peL Ax nx x.peers, blkL w.heap.size 27 (c0.cells (.slice A0 n0 d0)), peL A0 n0 c0.peers] w4 from HM1.out.stored hg4 hb4)
  clear hb4 hg4 HZ HM1
  generalize w3.heap.size = gx at HM ⊢
  obtain ⟨w3, hw3⟩ : ∃ z, w4 = z := ⟨_, rfl⟩
  subst hw3
  refine wp_region_held_drew (S := fun W' => Lows w [blkL gx 27 (x.cells (.slice Ax nx cx)), peL Ax nx x.peers, blkL w.heap.size 27 (c0.cells (.slice A0 n0 d0)), peL A0 n0 c0.peers] W') (by kernel_rfl) (HM.out.drew) (fun hHeld => ?_)
  replace HM := Lib.hid HM.out.drew
  generalize w3.drew = wd1 at HM hHeld ⊢
  refine take_first (v := .agg xc) 0 rfl (by kernel_rfl) (by kernel_rfl) (by kernel_rfl) (fun _ _ _ h => h) (by rw [← HXC.out]; exact yields_load_obj (by rfl) 27 (.tmp 11) rfl gx 0 rfl (x.cells (.slice Ax nx cx)) (fun w' hb => (Lows.blk hb 0 rfl).all) _ Tryz.underlying27 rfl (conf_cellsOf x HXO.out _)) (by assumption) ?_
  (try simp only [Act.put, List.setIfInBounds_toArray, List.set_cons_zero, List.set_cons_succ])
  refine take_first (v := .agg xc) 1 rfl (by kernel_rfl) (by kernel_rfl) (by kernel_rfl) (fun _ _ _ h => h) (by rw [← HXC.out]; exact yields_load_obj (by rfl) 27 (.tmp 11) rfl gx 0 rfl (x.cells (.slice Ax nx cx)) (fun w' hb => (Lows.blk hb 0 rfl).all) _ Tryz.underlying27 rfl (conf_cellsOf x HXO.out _)) (by assumption) ?_
  (try simp only [Act.put, List.setIfInBounds_toArray, List.set_cons_zero, List.set_cons_succ])
  refine take_first (v := ?_) 2 rfl (by kernel_rfl) (by kernel_rfl) (by kernel_rfl) (fun _ _ _ h => h) (Or.inl ⟨by rfl, ?_⟩) (by assumption) ?_
  rotate_left
  · (intro w hSw; (try dsimp only at hSw); go_simp; try with_reducible rfl)
  (try simp only [Act.put, List.setIfInBounds_toArray, List.set_cons_zero, List.set_cons_succ])
  refine take_first (v := ?_) 3 rfl (by kernel_rfl) (by kernel_rfl) (by kernel_rfl) (fun _ _ _ h => h) (Or.inl ⟨by rfl, ?_⟩) (by assumption) ?_
  rotate_left
  · (intro w hSw; (try dsimp only at hSw); go_simp; try with_reducible rfl)
  (try simp only [Act.put, List.setIfInBounds_toArray, List.set_cons_zero, List.set_cons_succ])
  refine take_first (v := ?_) 4 rfl (by kernel_rfl) (by kernel_rfl) (by kernel_rfl) (fun _ _ _ h => h) (Or.inl ⟨by rfl, ?_⟩) (by assumption) ?_
  rotate_left
  · (intro w hSw; (try dsimp only at hSw); go_simp; try with_reducible rfl)
  (try simp only [Act.put, List.setIfInBounds_toArray, List.set_cons_zero, List.set_cons_succ])
  refine take_first (v := .agg xc) 6 rfl (by kernel_rfl) (by kernel_rfl) (by kernel_rfl) (fun _ _ _ h => h) (by rw [← HXC.out]; exact yields_load_obj (by rfl) 27 (.tmp 11) rfl gx 0 rfl (x.cells (.slice Ax nx cx)) (fun w' hb => (Lows.blk hb 0 rfl).all) _ Tryz.underlying27 rfl (conf_cellsOf x HXO.out _)) (by assumption) ?_
  (try simp only [Act.put, List.setIfInBounds_toArray, List.set_cons_zero, List.set_cons_succ])
  refine take_first (v := ?_) 7 rfl (by kernel_rfl) (by kernel_rfl) (by kernel_rfl) (fun _ _ _ h => h) (Or.inl ⟨by rfl, ?_⟩) (by assumption) ?_
  rotate_left
  · (intro w hSw; (try dsimp only at hSw); go_simp; try with_reducible rfl)
  (try simp only [Act.put, List.setIfInBounds_toArray, List.set_cons_zero, List.set_cons_succ])
  refine take_first (v := ?_) 8 rfl (by kernel_rfl) (by kernel_rfl) (by kernel_rfl) (fun _ _ _ h => h) (Or.inl ⟨by rfl, ?_⟩) (by assumption) ?_
  rotate_left
  · (intro w hSw; (try dsimp only at hSw); go_simp; try with_reducible rfl)
  (try simp only [Act.put, List.setIfInBounds_toArray, List.set_cons_zero, List.set_cons_succ])
  refine take_first (v := ?_) 9 rfl (by kernel_rfl) (by kernel_rfl) (by kernel_rfl) (fun _ _ _ h => h) (Or.inl ⟨by rfl, ?_⟩) (by assumption) ?_
  rotate_left
  · (intro w hSw; (try dsimp only at hSw); go_simp; try with_reducible rfl)
  (try simp only [Act.put, List.setIfInBounds_toArray, List.set_cons_zero, List.set_cons_succ])
  refine take_first (v := ?_) 10 rfl (by kernel_rfl) (by kernel_rfl) (by kernel_rfl) (fun _ _ _ h => h) (Or.inl ⟨by rfl, ?_⟩) (by assumption) ?_
  rotate_left
  · (intro w hSw; (try dsimp only at hSw); go_simp; try with_reducible rfl)
  (try simp only [Act.put, List.setIfInBounds_toArray, List.set_cons_zero, List.set_cons_succ])
  refine take_first (v := .agg c0c) 12 rfl (by kernel_rfl) (by kernel_rfl) (by kernel_rfl) (fun _ _ _ h => h) (by rw [← HC0.out]; exact yields_load_obj (by rfl) 27 (.tmp 9) rfl w.heap.size 0 rfl (c0.cells (.slice A0 n0 d0)) (fun w' hb => (Lows.blk hb 2 rfl).all) _ Tryz.underlying27 rfl (conf_cellsOf c0 HO0.out _)) (by assumption) ?_
  (try simp only [Act.put, List.setIfInBounds_toArray, List.set_cons_zero, List.set_cons_succ])
  refine take_first (v := ?_) 16 rfl (by kernel_rfl) (by kernel_rfl) (by kernel_rfl) (fun _ _ _ h => h) (Or.inl ⟨by rfl, ?_⟩) (by assumption) ?_
  rotate_left
  · (intro w hSw; (try dsimp only at hSw); go_simp; try with_reducible rfl)
  (try simp only [Act.put, List.setIfInBounds_toArray, List.set_cons_zero, List.set_cons_succ])
  refine step_one 5 rfl (by kernel_rfl) (fun K hK => ?_)
  clear hHeld
  go_simp
  refine (HS1.out _ (HM.out.get (f := peL Ax nx x.peers) 1 rfl)).mono ?_
  rintro e wy2 ⟨y2, v2, rfl, hok2, hl2, ha2, A2, d2, rfl, hd2, hp2, hb⟩
  replace HM := Lib.hid (show Lows w [peL A2 y2.peers.length y2.peers, blkL gx 27 (x.cells (.slice Ax nx cx)), peL Ax nx x.peers, blkL w.heap.size 27 (c0.cells (.slice A0 n0 d0)), peL A0 n0 c0.peers] wy2 from (HM.out.below hb).cons (peL A2 y2.peers.length y2.peers) hp2)
  clear hb
  obtain ⟨n2, hn2⟩ : ∃ z, y2.peers.length = z := ⟨_, rfl⟩
  rw [hn2] at HM hl2 hd2 hp2
  (try rw [hn2])
  have HG2 := Lib.hid (show CfGood y2 n2 d2 from ⟨hok2, hl2, ha2, hd2⟩)
  obtain ⟨c2, hc2⟩ : ∃ z, (y2.cells (.slice A2 n2 d2)).toArray = z := ⟨_, rfl⟩
  rw [hc2]
  have HC2 := Lib.hid hc2
  clear hok2 hl2 ha2 hd2 hp2 hn2 hc2
  go_wp2_with fail
  refine hK.out _ _ (HM.out.tail 0) (fun hHeld => ?_)
  clear hK K
  (try simp only [Act.put, List.setIfInBounds_toArray, List.set_cons_zero, List.set_cons_succ])
  refine wpAnyH_stronger (T := fun W' => Lows w [peL A2 n2 y2.peers, blkL gx 27 (x.cells (.slice Ax nx cx)), peL Ax nx x.peers, blkL w.heap.size 27 (c0.cells (.slice A0 n0 d0)), peL A0 n0 c0.peers] W') (fun _ h' => (h'.tail 0)) _ _ _ _ ?_
  replace hHeld := HM.out
  refine step_one 11 rfl (by kernel_rfl) (fun K hK => ?_)
  clear hHeld
  go_simp
  refine (HS2.out _ (HM.out.get (f := peL Ax nx x.peers) 2 rfl)).mono ?_
  rintro e wy3 ⟨y3, v3, rfl, hok3, hl3, ha3, A3, d3, rfl, hd3, hp3, hb⟩
  replace HM := Lib.hid (show Lows w [peL A3 y3.peers.length y3.peers, peL A2 n2 y2.peers, blkL gx 27 (x.cells (.slice Ax nx cx)), peL Ax nx x.peers, blkL w.heap.size 27 (c0.cells (.slice A0 n0 d0)), peL A0 n0 c0.peers] wy3 from (HM.out.below hb).cons (peL A3 y3.peers.length y3.peers) hp3)
  clear hb
  obtain ⟨n3, hn3⟩ : ∃ z, y3.peers.length = z := ⟨_, rfl⟩
  rw [hn3] at HM hl3 hd3 hp3
  (try rw [hn3])
  have HG3 := Lib.hid (show CfGood y3 n3 d3 from ⟨hok3, hl3, ha3, hd3⟩)
  obtain ⟨c3, hc3⟩ : ∃ z, (y3.cells (.slice A3 n3 d3)).toArray = z := ⟨_, rfl⟩
  rw [hc3]
  have HC3 := Lib.hid hc3
  clear hok3 hl3 ha3 hd3 hp3 hn3 hc3
  go_wp2_with fail
  refine hK.out _ _ (HM.out.tail 0) (fun hHeld => ?_)
  clear hK K
  (try simp only [Act.put, List.setIfInBounds_toArray, List.set_cons_zero, List.set_cons_succ])
  refine wpAnyH_stronger (T := fun W' => Lows w [peL A3 n3 y3.peers, peL A2 n2 y2.peers, blkL gx 27 (x.cells (.slice Ax nx cx)), peL Ax nx x.peers, blkL w.heap.size 27 (c0.cells (.slice A0 n0 d0)), peL A0 n0 c0.peers] W') (fun _ h' => (h'.tail 0)) _ _ _ _ ?_
  replace hHeld := HM.out
  refine step_one 13 rfl (by kernel_rfl) (fun K hK => ?_)
  clear hHeld
  go_simp
  refine (HCT.out _ (HM.out.get (f := peL A0 n0 c0.peers) 5 rfl)).mono ?_
  rintro e wy4 ⟨y4, v4, rfl, hok4, hl4, ha4, _, _, hro4, hb⟩
  obtain ⟨A4, d4, rfl, hd4, hp4⟩ := hro4.rd
  replace HM := Lib.hid (show Lows w [peL A4 y4.peers.length y4.peers, peL A3 n3 y3.peers, peL A2 n2 y2.peers, blkL gx 27 (x.cells (.slice Ax nx cx)), peL Ax nx x.peers, blkL w.heap.size 27 (c0.cells (.slice A0 n0 d0)), peL A0 n0 c0.peers] wy4 from (HM.out.below hb).cons (peL A4 y4.peers.length y4.peers) hp4)
  clear hb hro4
  obtain ⟨n4, hn4⟩ : ∃ z, y4.peers.length = z := ⟨_, rfl⟩
  rw [hn4] at HM hl4 hd4 hp4
  (try rw [hn4])
  have HG4 := Lib.hid (show CfGood y4 n4 d4 from ⟨hok4, by omega, fun p hp => by have := ha4 p hp; omega, hd4⟩)
  obtain ⟨c4, hc4⟩ : ∃ z, (y4.cells (.slice A4 n4 d4)).toArray = z := ⟨_, rfl⟩
  rw [hc4]
  have HC4 := Lib.hid hc4
  clear hok4 hl4 ha4 hd4 hp4 hn4 hc4
  go_wp2_with fail
  refine hK.out _ _ (HM.out.tail 0) (fun hHeld => ?_)
  clear hK K
  (try simp only [Act.put, List.setIfInBounds_toArray, List.set_cons_zero, List.set_cons_succ])
  refine wpAnyH_stronger (T := fun W' => Lows w [peL A4 n4 y4.peers, peL A3 n3 y3.peers, peL A2 n2 y2.peers, blkL gx 27 (x.cells (.slice Ax nx cx)), peL Ax nx x.peers, blkL w.heap.size 27 (c0.cells (.slice A0 n0 d0)), peL A0 n0 c0.peers] W') (fun _ h' => (h'.tail 0)) _ _ _ _ ?_
  replace hHeld := HM.out
  refine step_one 14 rfl (by kernel_rfl) (fun K hK => ?_)
  clear hHeld
  have HRE := Lib.hid (conf4_eq HXC.out HC2.out HC3.out HC4.out)
  have HRL := Lib.hid (conf4_len (u := .slice Ax nx cx) (v := .slice A2 n2 d2) (s := .slice A3 n3 d3) (t := .slice A4 n4 d4) HXO.out HG2.out.ok HG3.out.ok HG4.out.ok)
  refine step_buildRows rfl 33 27 4 [(0, .tmp 21), (1, .tmp 26), (2, .tmp 32), (3, .tmp 34)] rfl [x.cells (.slice Ax nx cx), y2.cells (.slice A2 n2 d2), y3.cells (.slice A3 n3 d3), y4.cells (.slice A4 n4 d4)] rfl HRE.out 34 Tryz.underlying33 icf HCI.out.1 HCI.out.2.2 _ HCI.out.2.1 (by omega) (by omega) (by omega) HRL.out ?_
  have hm9 := HM.out.alloc 27 ([x.cells (.slice Ax nx cx), y2.cells (.slice A2 n2 d2), y3.cells (.slice A3 n3 d3), y4.cells (.slice A4 n4 d4)].flatten).toArray ([x.cells (.slice Ax nx cx), y2.cells (.slice A2 n2 d2), y3.cells (.slice A3 n3 d3), y4.cells (.slice A4 n4 d4)].flatten) rfl
  generalize wy4.alloc (.cells ([x.cells (.slice Ax nx cx), y2.cells (.slice A2 n2 d2), y3.cells (.slice A3 n3 d3), y4.cells (.slice A4 n4 d4)].flatten).toArray 27) = wy5 at hm9 ⊢
  generalize wy4.heap.size = gs at hm9 ⊢
  replace HM := Lib.hid (show Lows w [blkL gs 27 [x.cells (.slice Ax nx cx), y2.cells (.slice A2 n2 d2), y3.cells (.slice A3 n3 d3), y4.cells (.slice A4 n4 d4)].flatten, peL A4 n4 y4.peers, peL A3 n3 y3.peers, peL A2 n2 y2.peers, blkL gx 27 (x.cells (.slice Ax nx cx)), peL Ax nx x.peers, blkL w.heap.size 27 (c0.cells (.slice A0 n0 d0)), peL A0 n0 c0.peers] wy5 from hm9)
  clear hm9
  refine hK.out _ _ (HM.out.tail 0) (fun hHeld => ?_)
  clear hK K
  (try simp only [Act.put, List.setIfInBounds_toArray, List.set_cons_zero, List.set_cons_succ])
  refine wpAnyH_stronger (T := fun W' => Lows w [blkL gs 27 [x.cells (.slice Ax nx cx), y2.cells (.slice A2 n2 d2), y3.cells (.slice A3 n3 d3), y4.cells (.slice A4 n4 d4)].flatten, peL A4 n4 y4.peers, peL A3 n3 y3.peers, peL A2 n2 y2.peers, blkL gx 27 (x.cells (.slice Ax nx cx)), peL Ax nx x.peers, blkL w.heap.size 27 (c0.cells (.slice A0 n0 d0)), peL A0 n0 c0.peers] W') (fun _ h' => (h'.tail 0)) _ _ _ _ ?_
  replace hHeld := HM.out
  refine take_first (v := ?_) 15 rfl (by kernel_rfl) (by kernel_rfl) (by kernel_rfl) (fun _ _ _ h => h) (Or.inl ⟨by rfl, ?_⟩) (by assumption) ?_
  rotate_left
  · (intro w hSw; (try dsimp only at hSw); go_simp; try with_reducible rfl)
  (try simp only [Act.put, List.setIfInBounds_toArray, List.set_cons_zero, List.set_cons_succ])
  refine wpAnyH_done (by kernel_rfl) ?_ _
  clear hHeld
  go_wp2_with fail
  have HI := Lib.hid (show ∀ q, q < 4 → ∃ (y : ConfM) (A : Option Addr) (n d : Nat), CfGood y n d ∧ (∀ W, Lows w [blkL gs 27 [x.cells (.slice Ax nx cx), y2.cells (.slice A2 n2 d2), y3.cells (.slice A3 n3 d3), y4.cells (.slice A4 n4 d4)].flatten, peL A4 n4 y4.peers, peL A3 n3 y3.peers, peL A2 n2 y2.peers, blkL gx 27 (x.cells (.slice Ax nx cx)), peL Ax nx x.peers, blkL w.heap.size 27 (c0.cells (.slice A0 n0 d0)), peL A0 n0 c0.peers] W → At W gs (q * 34) (y.cells (.slice A n d))) ∧ (∀ W, Lows w [blkL gs 27 [x.cells (.slice Ax nx cx), y2.cells (.slice A2 n2 d2), y3.cells (.slice A3 n3 d3), y4.cells (.slice A4 n4 d4)].flatten, peL A4 n4 y4.peers, peL A3 n3 y3.peers, peL A2 n2 y2.peers, blkL gx 27 (x.cells (.slice Ax nx cx)), peL Ax nx x.peers, blkL w.heap.size 27 (c0.cells (.slice A0 n0 d0)), peL A0 n0 c0.peers] W → PeRd W W.heap.size A n y.peers) from fun q hq => by
    have hrl := HRL.out
    rcases (show q = 0 ∨ q = 1 ∨ q = 2 ∨ q = 3 by omega) with rfl | rfl | rfl | rfl
    · exact ⟨x, Ax, nx, cx, HGX.out, fun W h => blk_at (rest := []) (by rw [List.append_nil]; exact h.blk 0 rfl) hrl rfl, fun W h => h.get (f := peL Ax nx x.peers) 5 rfl⟩
    · exact ⟨y2, A2, n2, d2, HG2.out, fun W h => blk_at (rest := []) (by rw [List.append_nil]; exact h.blk 0 rfl) hrl rfl, fun W h => h.get (f := peL A2 n2 y2.peers) 3 rfl⟩
    · exact ⟨y3, A3, n3, d3, HG3.out, fun W h => blk_at (rest := []) (by rw [List.append_nil]; exact h.blk 0 rfl) hrl rfl, fun W h => h.get (f := peL A3 n3 y3.peers) 2 rfl⟩
    · exact ⟨y4, A4, n4, d4, HG4.out, fun W h => blk_at (rest := []) (by rw [List.append_nil]; exact h.blk 0 rfl) hrl rfl, fun W h => h.get (f := peL A4 n4 y4.peers) 1 rfl⟩)
  go_loopw [37] (fun i wr => ∃ q : Nat, q ≤ 4 ∧ i = .int .i64 (q : Int) ∧ Lows w [blkL gs 27 [x.cells (.slice Ax nx cx), y2.cells (.slice A2 n2 d2), y3.cells (.slice A3 n3 d3), y4.cells (.slice A4 n4 d4)].flatten, peL A4 n4 y4.peers, peL A3 n3 y3.peers, peL A2 n2 y2.peers, blkL gx 27 (x.cells (.slice Ax nx cx)), peL Ax nx x.peers, blkL w.heap.size 27 (c0.cells (.slice A0 n0 d0)), peL A0 n0 c0.peers] wr) (fun i _ => 4 - (intOf i).toNat)
  case atStart => exact ⟨0, Nat.zero_le _, rfl, HM.out⟩
  case round =>
    clear HM
    obtain ⟨q, hq, rfl, hM⟩ := hrel
    have HM := Lib.hid hM
    clear hM
    by_cases hq4 : q < 4
    · have d1 : decide ((q : Int) < 4) = true := by simp; omega
      obtain ⟨y, A, n, d, hg, hat, hpe⟩ := HI.out q hq4
      have HG := Lib.hid hg
      have HPE0 := Lib.hid hpe
      have HLA := Lib.hid (hat wr HM.out)
      obtain ⟨yc, hyc⟩ : ∃ z, (y.cells (.slice A n d)).toArray = z := ⟨_, rfl⟩
      have hf1 := fun W (h : PeRd W W.heap.size A n y.peers) (hl : LvCf W) => format_any y A n d W hg.ok h (by have := hg.few; omega) (fun p hp => by have := hg.al p hp; omega) hl
      have hf2 := fun W (h : PeRd W W.heap.size A n y.peers) => refFormat_any y A n d W hg.ok h (by have := hg.few; omega) (fun p hp => by have := hg.al p hp; omega) hg.cap
      have hv1 := fun W (h : PeRd W W.heap.size A n y.peers) (hl : LvCf W) => validate_any y A n d W hg.ok h (by have := hg.few; omega) (fun p hp => by have := hg.al p hp; omega) hl
      have hv2 := fun W (h : PeRd W W.heap.size A n y.peers) => refValidate_any y A n d W hg.ok h (by have := hg.few; omega) (fun p hp => by have := hg.al p hp; omega) hg.cap
      obtain ⟨ve, hve⟩ : ∃ z : Int, (validE y : Int) = z := ⟨_, rfl⟩
      obtain ⟨tl, htl⟩ : ∃ z : List UInt8, (if validE y = 0 then fmtM y else []) = z := ⟨_, rfl⟩
      rw [hyc, htl, hve] at hf1 hf2
      rw [hyc, hve] at hv1 hv2
      have HF1 := Lib.hid hf1
      have HF2 := Lib.hid hf2
      have HV1 := Lib.hid hv1
      have HV2 := Lib.hid hv2
      have HYC := Lib.hid hyc
      clear hg hat hpe hyc hf1 hf2 hv1 hv2 hve htl
      have HZ := Lib.hid (Blk.new wr 27 confZ)
      go_upto_region 5 with (first | ((with_reducible refine at_op (.load 27 (.tmp 39)) rfl ?_); refine wpList_load_obj rfl 27 (.tmp 39) rfl gs _ rfl _ HLA.out _ Tryz.underlying27 rfl (conf_cellsOf y HG.out.ok _) ?_; rw [HYC.out]) | ((with_reducible refine at_op (.store 27 (.tmp 13) (.tmp 40)) rfl ?_); refine wpList_store_obj rfl 27 (.tmp 13) (.tmp 40) rfl wr.heap.size 0 (y.cells (.slice A n d)) rfl (by show Value.agg yc = _; rw [HYC.out]) 27 confZ HZ.out (conf_cellsOf y HG.out.ok _) (by rw [ConfM.cells_length HG.out.ok, confZ_length]; omega) (conf_one _ _ _ _) ?_; intro w6 hb6 hg6))
      rw [setL_all confZ _ (by rw [ConfM.cells_length HG.out.ok, confZ_length])] at hb6
      replace HM := Lib.hid (show Lows w ([blkL wr.heap.size 27 (y.cells (.slice A n d)), blkL gs 27 [x.cells (.slice Ax nx cx), y2.cells (.slice A2 n2 d2), y3.cells (.slice A3 n3 d3), y4.cells (.slice A4 n4 d4)].flatten, peL A4 n4 y4.peers, peL A3 n3 y3.peers, peL A2 n2 y2.peers, blkL gx 27 (x.cells (.slice Ax nx cx)), peL Ax nx x.peers, blkL w.heap.size 27 (c0.cells (.slice A0 n0 d0)), peL A0 n0 c0.peers]) w6 from HM.out.stored hg6 hb6)
      generalize wr.heap.size = gy at HM ⊢
      have HPE := Lib.hid (show ∀ W, Lows w [blkL gy 27 (y.cells (.slice A n d)), blkL gs 27 [x.cells (.slice Ax nx cx), y2.cells (.slice A2 n2 d2), y3.cells (.slice A3 n3 d3), y4.cells (.slice A4 n4 d4)].flatten, peL A4 n4 y4.peers, peL A3 n3 y3.peers, peL A2 n2 y2.peers, blkL gx 27 (x.cells (.slice Ax nx cx)), peL Ax nx x.peers, blkL w.heap.size 27 (c0.cells (.slice A0 n0 d0)), peL A0 n0 c0.peers] W → PeRd W W.heap.size A n y.peers from fun W h => HPE0.out W (h.tail 0))
      clear hb6 hg6 HZ HLA d1 HPE0
      go_wp2_with ((with_reducible refine at_op (.load 27 (.tmp 13)) rfl ?_); refine wpList_load_obj rfl 27 (.tmp 13) rfl gy 0 rfl _ (HM.out.blk 0 rfl).all _ Tryz.underlying27 rfl (conf_cellsOf y HG.out.ok _) ?_; rw [HYC.out])
      refine (HF1.out _ (HPE.out _ HM.out) (HLV.out.below HM.out.bel)).mono ?_
      rintro e w7 ⟨rfl, hb⟩
      replace HM := Lib.hid (HM.out.below hb)
      clear hb
      go_wp2_with ((with_reducible refine at_op (.load 27 (.tmp 13)) rfl ?_); refine wpList_load_obj rfl 27 (.tmp 13) rfl gy 0 rfl _ (HM.out.blk 0 rfl).all _ Tryz.underlying27 rfl (conf_cellsOf y HG.out.ok _) ?_; rw [HYC.out])
      refine (HF2.out _ (HPE.out _ HM.out)).mono ?_
      rintro e w8 ⟨rfl, hb⟩
      replace HM := Lib.hid (HM.out.below hb)
      clear hb HF1 HF2
      go_upto_region 7 with fail
      obtain ⟨w7, hw7⟩ : ∃ z, w8 = z := ⟨_, rfl⟩
      subst hw7
      refine wp_region_held_drew (S := fun W' => Lows w [blkL gy 27 (y.cells (.slice A n d)), blkL gs 27 [x.cells (.slice Ax nx cx), y2.cells (.slice A2 n2 d2), y3.cells (.slice A3 n3 d3), y4.cells (.slice A4 n4 d4)].flatten, peL A4 n4 y4.peers, peL A3 n3 y3.peers, peL A2 n2 y2.peers, blkL gx 27 (x.cells (.slice Ax nx cx)), peL Ax nx x.peers, blkL w.heap.size 27 (c0.cells (.slice A0 n0 d0)), peL A0 n0 c0.peers] W') (by kernel_rfl) (HM.out.drew) (fun hHeld => ?_)
      replace HM := Lib.hid HM.out.drew
      generalize w7.drew = wd1 at HM hHeld ⊢
      refine take_first (v := .agg yc) 0 rfl (by kernel_rfl) (by kernel_rfl) (by kernel_rfl) (fun _ _ _ h => h) (by rw [← HYC.out]; exact yields_load_obj (by rfl) 27 (.tmp 13) rfl gy 0 rfl _ (fun w' hb => (Lows.blk hb 0 rfl).all) _ Tryz.underlying27 rfl (conf_cellsOf y HG.out.ok _)) (by assumption) ?_
      (try simp only [Act.put, List.setIfInBounds_toArray, List.set_cons_zero, List.set_cons_succ])
      refine take_first (v := .agg yc) 2 rfl (by kernel_rfl) (by kernel_rfl) (by kernel_rfl) (fun _ _ _ h => h) (by rw [← HYC.out]; exact yields_load_obj (by rfl) 27 (.tmp 13) rfl gy 0 rfl _ (fun w' hb => (Lows.blk hb 0 rfl).all) _ Tryz.underlying27 rfl (conf_cellsOf y HG.out.ok _)) (by assumption) ?_
      (try simp only [Act.put, List.setIfInBounds_toArray, List.set_cons_zero, List.set_cons_succ])
      refine step_one 1 rfl (by kernel_rfl) (fun K hK => ?_)
      clear hHeld
      go_simp
      refine (HV1.out _ (HPE.out _ HM.out) (HLV.out.below HM.out.bel)).mono ?_
      rintro e wy2 ⟨rfl, hb⟩
      replace HM := Lib.hid (show Lows w [blkL gy 27 (y.cells (.slice A n d)), blkL gs 27 [x.cells (.slice Ax nx cx), y2.cells (.slice A2 n2 d2), y3.cells (.slice A3 n3 d3), y4.cells (.slice A4 n4 d4)].flatten, peL A4 n4 y4.peers, peL A3 n3 y3.peers, peL A2 n2 y2.peers, blkL gx 27 (x.cells (.slice Ax nx cx)), peL Ax nx x.peers, blkL w.heap.size 27 (c0.cells (.slice A0 n0 d0)), peL A0 n0 c0.peers] wy2 from HM.out.below hb)
      clear hb
      go_wp2_with fail
      refine hK.out _ _ (HM.out) (fun hHeld => ?_)
      clear hK K
      (try simp only [Act.put, List.setIfInBounds_toArray, List.set_cons_zero, List.set_cons_succ])
      refine step_one 3 rfl (by kernel_rfl) (fun K hK => ?_)
      clear hHeld
      go_simp
      refine (HV2.out _ (HPE.out _ HM.out)).mono ?_
      rintro e wy3 ⟨rfl, hb⟩
      replace HM := Lib.hid (show Lows w [blkL gy 27 (y.cells (.slice A n d)), blkL gs 27 [x.cells (.slice Ax nx cx), y2.cells (.slice A2 n2 d2), y3.cells (.slice A3 n3 d3), y4.cells (.slice A4 n4 d4)].flatten, peL A4 n4 y4.peers, peL A3 n3 y3.peers, peL A2 n2 y2.peers, blkL gx 27 (x.cells (.slice Ax nx cx)), peL Ax nx x.peers, blkL w.heap.size 27 (c0.cells (.slice A0 n0 d0)), peL A0 n0 c0.peers] wy3 from HM.out.below hb)
      clear hb
      go_wp2_with fail
      refine hK.out _ _ (HM.out) (fun hHeld => ?_)
      clear hK K
      (try simp only [Act.put, List.setIfInBounds_toArray, List.set_cons_zero, List.set_cons_succ])
      refine take_first (v := ?_) 4 rfl (by kernel_rfl) (by kernel_rfl) (by kernel_rfl) (fun _ _ _ h => h) (Or.inl ⟨by rfl, ?_⟩) (by assumption) ?_
      rotate_left
      · (intro w hSw; (try dsimp only at hSw); go_simp; try with_reducible rfl)
      (try simp only [Act.put, List.setIfInBounds_toArray, List.set_cons_zero, List.set_cons_succ])
      refine take_first (v := ?_) 5 rfl (by kernel_rfl) (by kernel_rfl) (by kernel_rfl) (fun _ _ _ h => h) (Or.inl ⟨by rfl, ?_⟩) (by assumption) ?_
      rotate_left
      · (intro w hSw; (try dsimp only at hSw); go_simp; try with_reducible rfl)
      (try simp only [Act.put, List.setIfInBounds_toArray, List.set_cons_zero, List.set_cons_succ])
      refine take_first (v := ?_) 6 rfl (by kernel_rfl) (by kernel_rfl) (by kernel_rfl) (fun _ _ _ h => h) (Or.inl ⟨by rfl, ?_⟩) (by assumption) ?_
      rotate_left
      · (intro w hSw; (try dsimp only at hSw); go_simp; try with_reducible rfl)
      (try simp only [Act.put, List.setIfInBounds_toArray, List.set_cons_zero, List.set_cons_succ])
      refine take_first (v := ?_) 7 rfl (by kernel_rfl) (by kernel_rfl) (by kernel_rfl) (fun _ _ _ h => h) (Or.inl ⟨by rfl, ?_⟩) (by assumption) ?_
      rotate_left
      · (intro w hSw; (try dsimp only at hSw); go_simp; try with_reducible rfl)
      (try simp only [Act.put, List.setIfInBounds_toArray, List.set_cons_zero, List.set_cons_succ])
      refine take_first (v := ?_) 8 rfl (by kernel_rfl) (by kernel_rfl) (by kernel_rfl) (fun _ _ _ h => h) (Or.inl ⟨by rfl, ?_⟩) (by assumption) ?_
      rotate_left
      · (intro w hSw; (try dsimp only at hSw); go_simp; try with_reducible rfl)
      (try simp only [Act.put, List.setIfInBounds_toArray, List.set_cons_zero, List.set_cons_succ])
      refine take_first (v := ?_) 9 rfl (by kernel_rfl) (by kernel_rfl) (by kernel_rfl) (fun _ _ _ h => h) (Or.inl ⟨by rfl, ?_⟩) (by assumption) ?_
      rotate_left
      · (intro w hSw; (try dsimp only at hSw); go_simp; try with_reducible rfl)
      (try simp only [Act.put, List.setIfInBounds_toArray, List.set_cons_zero, List.set_cons_succ])
      refine take_first (v := ?_) 10 rfl (by kernel_rfl) (by kernel_rfl) (by kernel_rfl) (fun _ _ _ h => h) (Or.inl ⟨by rfl, ?_⟩) (by assumption) ?_
      rotate_left
      · (intro w hSw; (try dsimp only at hSw); go_simp; try with_reducible rfl)
      (try simp only [Act.put, List.setIfInBounds_toArray, List.set_cons_zero, List.set_cons_succ])
      refine take_first (v := ?_) 11 rfl (by kernel_rfl) (by kernel_rfl) (by kernel_rfl) (fun _ _ _ h => h) (Or.inl ⟨by rfl, ?_⟩) (by assumption) ?_
      rotate_left
      · (intro w hSw; (try dsimp only at hSw); go_simp; try with_reducible rfl)
      (try simp only [Act.put, List.setIfInBounds_toArray, List.set_cons_zero, List.set_cons_succ])
      refine take_first (v := ?_) 12 rfl (by kernel_rfl) (by kernel_rfl) (by kernel_rfl) (fun _ _ _ h => h) (Or.inl ⟨by rfl, ?_⟩) (by assumption) ?_
      rotate_left
      · (intro w hSw; (try dsimp only at hSw); go_simp; try with_reducible rfl)
      (try simp only [Act.put, List.setIfInBounds_toArray, List.set_cons_zero, List.set_cons_succ])
      refine take_first (v := ?_) 13 rfl (by kernel_rfl) (by kernel_rfl) (by kernel_rfl) (fun _ _ _ h => h) (Or.inl ⟨by rfl, ?_⟩) (by assumption) ?_
      rotate_left
      · (intro w hSw; (try dsimp only at hSw); go_simp; try with_reducible rfl)
      (try simp only [Act.put, List.setIfInBounds_toArray, List.set_cons_zero, List.set_cons_succ])
      refine take_first (v := ?_) 14 rfl (by kernel_rfl) (by kernel_rfl) (by kernel_rfl) (fun _ _ _ h => h) (Or.inl ⟨by rfl, ?_⟩) (by assumption) ?_
      rotate_left
      · (intro w hSw; (try dsimp only at hSw); go_simp; try with_reducible rfl)
      (try simp only [Act.put, List.setIfInBounds_toArray, List.set_cons_zero, List.set_cons_succ])
      refine wpAnyH_done (by kernel_rfl) ?_ _
      clear hHeld
      have HM3 := Lib.hid (show Lows w [blkL gs 27 [x.cells (.slice Ax nx cx), y2.cells (.slice A2 n2 d2), y3.cells (.slice A3 n3 d3), y4.cells (.slice A4 n4 d4)].flatten, peL A4 n4 y4.peers, peL A3 n3 y3.peers, peL A2 n2 y2.peers, blkL gx 27 (x.cells (.slice Ax nx cx)), peL Ax nx x.peers, blkL w.heap.size 27 (c0.cells (.slice A0 n0 d0)), peL A0 n0 c0.peers] wy3 from HM.out.tail 0)
      clear HM
      go_wp2_with fail
      go_roundw
      case rel => exact ⟨q + 1, by omega, by go_num, HM3.out⟩
      case measure => simp [intOf]; omega
    · obtain rfl : q = 4 := by omega
      have d1 : decide (((4 : Nat) : Int) < 4) = false := by decide
      clear hq hq4
      have HX9 := Lib.hid (HM.out.blk 4 rfl)
      have hvx := validate_any x Ax nx cx wr HXO.out (HM.out.get (f := peL Ax nx x.peers) 5 rfl) (by have := HGX.out.few; omega) (fun p hp => by have := HGX.out.al p hp; omega) (HLV.out.below HM.out.bel)
      rw [HVX.out, HXC.out] at hvx
      have HVV := Lib.hid hvx
      clear hvx
      go_wp2_with ((with_reducible refine at_op (.load 27 (.tmp 11)) rfl ?_); refine wpList_load_obj rfl 27 (.tmp 11) rfl gx 0 rfl _ HX9.out.all _ Tryz.underlying27 rfl (conf_cellsOf x HXO.out _) ?_; rw [HXC.out])
      refine HVV.out.mono ?_
      rintro e w9 ⟨rfl, hb⟩
      have HM9 := Lib.hid (HM.out.below hb)
      clear hb HM HVV HX9
      go_wp2_with fail
      refine (cf_begun_any cfFmtPrefC cfParsePrefC w9 (HLV.out.below HM9.out.bel)).mono ?_
      rintro e wz ⟨rfl, hb⟩
      have HF := Lib.hid (HM9.out.below hb)
      clear hb HM9
      go_wp2
      go_ret
      exact ⟨rfl, HF.out.bel⟩
end Go.Proofs.YtcbfchkhbngpkaaGreatDoor
namespace Go.Proofs.YtcbfchkhbngpkaaGreatDoor
open Go.RowKit Go.ChangeShapes Go.WideShapes Go.ChangeAt

theorem pfs_of : ∀ {os : List (List Value)}, (∀ o ∈ os, ∃ (a : AddrM) (q : Int), o = prefC a q ∧ a.ok ∧ inI64 q) → ∃ l : List (AddrM × Int), os = pfsV l ∧ ∀ r ∈ l, okP r
  | [], _ => ⟨[], rfl, by simp⟩
  | o :: os, h => by
    obtain ⟨a, q, rfl, ha, hq⟩ := h o (List.mem_cons_self ..)
    obtain ⟨l, rfl, hl⟩ := pfs_of (fun o ho => h o (List.mem_cons_of_mem _ ho))
    exact ⟨(a, q) :: l, rfl, fun r hr => by
      rcases List.mem_cons.1 hr with rfl | hr
      · exact ⟨ha, hq⟩
      · exact hl r hr⟩
theorem seg_off (cs : List Value) (a b : Nat) (h : a ≤ b) : cs.drop a = (cs.drop a).take (b - a) ++ cs.drop b := by
  have e := (List.take_append_drop (b - a) (cs.drop a)).symm
  rw [List.drop_drop, show a + (b - a) = b from by omega] at e
  exact e
set_option maxRecDepth 100000 in
theorem end_cells_of {H : Type} {enc : TypeId × Value → H} {W : World} {fuel : Nat} {cs : List Value} {x : DataW H × List MemPlace} (h : DataW.trod enc Tryz.prog W 0 (fun _ => true) true fuel 55 cs = some x) : ∃ (a : AddrM) (bits : Int), cs = prefC a bits ∧ a.ok ∧ inI64 bits := by
  obtain ⟨hl, hfl⟩ := field_cells Tryz.underlying55 h
  obtain ⟨n0, y0, h0⟩ := hfl 0 53 0 17 rfl (by kernel_rfl)
  obtain ⟨n1, y1, h1⟩ := hfl 1 3 17 1 rfl (by kernel_rfl)
  obtain ⟨a, ha, hok⟩ := addr_cells_of h0
  obtain ⟨bits, hb, hb1, hb2⟩ := i64_cells Tryz.underlying3 h1
  have e2 : Tryz.prog.cellsOf 55 = 18 := by kernel_rfl
  rw [e2] at hl
  refine ⟨a, bits, ?_, hok, hb1, hb2⟩
  rw [seg_two cs 17 1 hl, ha, hb]
  rfl
/-- what the cells of a peer of an argument are -/
def PeOf (W : World) (cs : List Value) : Prop := ∃ (p : PeerM) (A : Option Addr) (c : Nat), cs = p.cells (.slice A p.al.length c) ∧ p.ok ∧ p.al.length ≤ c ∧ c ≤ maxLen ∧ PfRd W W.heap.size A p.al.length p.al
set_option maxRecDepth 100000 in
theorem peer_cells_of {H : Type} {enc : TypeId × Value → H} {W : World} {fuel : Nat} {cs : List Value} {x : DataW H × List MemPlace} (h : DataW.trod enc Tryz.prog W 0 (fun _ => true) true fuel 57 cs = some x) : PeOf W cs := by
  obtain ⟨hl, hfl⟩ := field_cells Tryz.underlying57 h
  obtain ⟨n0, y0, h0⟩ := hfl 0 24 0 32 rfl (by kernel_rfl)
  obtain ⟨n1, y1, h1⟩ := hfl 1 24 32 32 rfl (by kernel_rfl)
  obtain ⟨n2, y2, h2⟩ := hfl 2 4 64 1 rfl (by kernel_rfl)
  obtain ⟨n3, y3, h3⟩ := hfl 3 55 65 18 rfl (by kernel_rfl)
  obtain ⟨n4, y4, h4⟩ := hfl 4 2 83 1 rfl (by kernel_rfl)
  obtain ⟨n5, y5, h5⟩ := hfl 5 49 84 1 rfl (by kernel_rfl)
  obtain ⟨pub, hp, hpl⟩ := bytes_cells Tryz.underlying24 Tryz.underlying5 (by kernel_rfl) (by kernel_rfl) h0
  obtain ⟨sha, hs, hsl⟩ := bytes_cells Tryz.underlying24 Tryz.underlying5 (by kernel_rfl) (by kernel_rfl) h1
  obtain ⟨b, hb⟩ := bool_cells Tryz.underlying4 h2
  obtain ⟨ea, ep, he, heo, hepi⟩ := end_cells_of h3
  obtain ⟨kp, hk, hk1, hk2⟩ := i64_cells Tryz.underlying2 h4
  obtain ⟨A, len, cap, os, hc, hle, hcm, hrow, hall⟩ := objs_cells Tryz.underlying49 18 (by kernel_rfl) (by omega) (fun cs => ∃ (a : AddrM) (q : Int), cs = prefC a q ∧ a.ok ∧ inI64 q) (fun _ _ _ h => pref_cells_of h) h5
  obtain ⟨l, rfl, hlo⟩ := pfs_of hall
  have hlen : l.length = len := by have := hrow.1; simpa [pfsV] using this
  have e2 : Tryz.prog.cellsOf 57 = 85 := by kernel_rfl
  rw [e2] at hl
  refine ⟨⟨pub, sha, b, ea, ep, kp, l⟩, A, cap, ?_, ⟨hpl, hsl, heo, hepi, ⟨hk1, hk2⟩, hlo⟩, by show l.length ≤ cap; omega, hcm, by show PfRd W W.heap.size A l.length l; rw [hlen]; exact ⟨hrow, hlo⟩⟩
  have e5 : (cs.drop 84).take 1 = cs.drop 84 := List.take_of_length_le (by rw [List.length_drop]; omega)
  rw [e5] at hc
  have q0 := seg_off cs 0 32 (by omega)
  have q1 := seg_off cs 32 64 (by omega)
  have q2 := seg_off cs 64 65 (by omega)
  have q3 := seg_off cs 65 83 (by omega)
  have q4 := seg_off cs 83 84 (by omega)
  rw [show 32 - 0 = 32 from rfl, hp] at q0
  rw [show 64 - 32 = 32 from rfl, hs] at q1
  rw [show 65 - 64 = 1 from rfl, hb] at q2
  rw [show 83 - 65 = 18 from rfl, he] at q3
  rw [show 84 - 83 = 1 from rfl, hk, hc] at q4
  rw [List.drop_zero] at q0
  rw [q0, q1, q2, q3, q4]
  simp [PeerM.cells, hlen]
theorem pes_of {W : World} : ∀ {os : List (List Value)}, (∀ o ∈ os, PeOf W o) → ∃ (ps : List PeerM) (vs : List Value), vs.length = ps.length ∧ os = peersV ps vs ∧ (∀ p ∈ ps, p.ok) ∧ ∀ (i : Nat) (p : PeerM) (x : Value), ps[i]? = some p → vs[i]? = some x → ∃ A' c, x = .slice A' p.al.length c ∧ p.al.length ≤ c ∧ c ≤ maxLen ∧ PfRd W W.heap.size A' p.al.length p.al
  | [], _ => ⟨[], [], rfl, rfl, by simp, by simp⟩
  | o :: os, h => by
    obtain ⟨p, A, c, rfl, h1, h2, h3, h4⟩ := h o (List.mem_cons_self ..)
    obtain ⟨ps, vs, hl, rfl, hok, hpf⟩ := pes_of (fun o ho => h o (List.mem_cons_of_mem _ ho))
    refine ⟨p :: ps, .slice A p.al.length c :: vs, by simp [hl], rfl, fun q hq => ?_, fun i q x hq hx => ?_⟩
    · rcases List.mem_cons.1 hq with rfl | hq
      · exact h1
      · exact hok q hq
    · cases i with
      | zero =>
        simp only [List.getElem?_cons_zero, Option.some.injEq] at hq hx
        subst hq hx
        exact ⟨A, c, rfl, h2, h3, h4⟩
      | succ i => exact hpf i q x (by simpa using hq) (by simpa using hx)
set_option maxRecDepth 100000 in
theorem open_conf {H : Type} {enc : TypeId × Value → H} {W : World} {r : Reach} {b0 : Nat} {v : Value} {d : DataW H} {p : List MemPlace} (hv : Value.okWide Tryz.prog W r b0 27 v) (h : DataW.Trod enc Tryz.prog W 0 (fun _ => true) true 27 v d p) :
    ∃ (c : ConfM) (A : Option Addr) (n cap : Nat), v = .agg (c.cells (.slice A n cap)).toArray ∧ (c.ok ∧ n ≤ cap) ∧ PeRd W W.heap.size A n c.peers := by
  simp only [Value.okWide, Tryz.underlying27] at hv
  obtain ⟨cs, rfl, hsz, _⟩ := hv
  obtain ⟨fuel, hf⟩ := h
  have hcl : (Value.cells (.agg cs)).toList = cs.toList := rfl
  rw [hcl] at hf
  obtain ⟨hl, hfl⟩ := field_cells Tryz.underlying27 hf
  obtain ⟨n0, y0, h0⟩ := hfl 0 24 0 32 rfl (by kernel_rfl)
  obtain ⟨n1, y1, h1⟩ := hfl 1 3 32 1 rfl (by kernel_rfl)
  obtain ⟨n2, y2, h2⟩ := hfl 2 25 33 1 rfl (by kernel_rfl)
  obtain ⟨pub, hp, hpl⟩ := bytes_cells Tryz.underlying24 Tryz.underlying5 (by kernel_rfl) (by kernel_rfl) h0
  obtain ⟨kp, hk, hk1, hk2⟩ := i64_cells Tryz.underlying3 h1
  obtain ⟨A, len, cap, os, hc, hle, hcm, hrow, hall⟩ := objs_cells Tryz.underlying25 85 (by kernel_rfl) (by omega) (PeOf W) (fun _ _ _ h => peer_cells_of h) h2
  obtain ⟨ps, vs, hlv, rfl, hok, hpf⟩ := pes_of hall
  have e2 : Tryz.prog.cellsOf 27 = 34 := by kernel_rfl
  rw [e2] at hl
  have e5 : (cs.toList.drop 33).take 1 = cs.toList.drop 33 := List.take_of_length_le (by rw [List.length_drop]; omega)
  rw [e5] at hc
  have q0 := seg_off cs.toList 0 32 (by omega)
  have q1 := seg_off cs.toList 32 33 (by omega)
  rw [show 32 - 0 = 32 from rfl, hp, List.drop_zero] at q0
  rw [show 33 - 32 = 1 from rfl, hk, hc] at q1
  refine ⟨⟨pub, kp, ps⟩, A, len, cap, ?_, ⟨⟨hpl, ⟨hk1, hk2⟩, hok⟩, hle⟩, vs, hlv, hrow, hok, hpf⟩
  have e3 : cs.toList = ConfM.cells ⟨pub, kp, ps⟩ (.slice A len cap) := by
    rw [q0, q1]
    rfl
  rw [← e3]
end Go.Proofs.YtcbfchkhbngpkaaGreatDoor
namespace Go.Proofs.YtcbfchkhbngpkaaGreatDoor
open Go.RowKit Go.ChangeShapes Go.WideShapes Go.ChangeAt

theorem laid_data {P : Program} {l : List (String × DataW Unit)} {W : World} (h : laidMetH P l W) : laidMet P (l.filter fun x => x.2.handleName?.isNone) W := by
  unfold laidMetH at h
  generalize hfl : (l.filter fun x => x.2.handleName?.isSome) = fl at h
  cases fl with
  | nil =>
    have e : (l.filter fun x => x.2.handleName?.isNone) = l := by
      rw [List.filter_eq_self]
      intro x hx
      have := (List.filter_eq_nil_iff.1 hfl) x hx
      cases hn : x.2.handleName? with
      | none => rfl
      | some s => rw [hn] at this; exact absurd rfl this
    rw [e]
    exact h
  | cons y ys => exact h.1
theorem laid_in {P : Program} {W : World} : ∀ {l : List (String × DataW Unit)} {ps : List MemPlace}, DataW.LaidVars P W l ps → ∀ {n : String} {d : DataW Unit}, (n, d) ∈ l →
    ∃ g t cs fuel p, P.globalNamed n = some g ∧ (P.globals[g]?).map (·.type) = some t ∧ W.var? P n = some cs ∧ DataW.trod (fun _ => ()) P W 0 (fun _ => true) false fuel t cs.toList = some (d, p) ∧ (0 < cs.size → MemPlace.cell g 0 ∈ ps)
  | [], _, _, _, _, hx => by cases hx
  | (n0, d0) :: r, ps, h, n, d, hx => by
    obtain ⟨g, t, cs, fuel, p, q, hg, ht, hv, hd, hr, hps⟩ := h
    rcases List.mem_cons.1 hx with e | hx'
    · obtain ⟨rfl, rfl⟩ := Prod.mk.injEq .. ▸ e
      refine ⟨g, t, cs, fuel, p, hg, ht, hv, hd, fun h0 => ?_⟩
      rw [hps]
      refine List.mem_append_left _ (List.mem_append_left _ ?_)
      unfold MemPlace.row
      exact List.mem_map.2 ⟨0, List.mem_range.2 h0, rfl⟩
    · obtain ⟨g', t', cs', fuel', p', h1, h2, h3, h4, h5⟩ := laid_in hr hx'
      refine ⟨g', t', cs', fuel', p', h1, h2, h3, h4, fun h0 => ?_⟩
      rw [hps]
      exact List.mem_append_right _ (h5 h0)
/-- a listed variable's block -/
theorem laid_blk {P : Program} {W : World} {l : List (String × DataW Unit)} (h : laidMetH P l W) {n : String} {d : DataW Unit} (hx : (n, d) ∈ l) (hn : d.handleName?.isNone = true) {g0 : Nat} {t0 : TypeId} (hg0 : P.globalNamed n = some g0) (ht0 : (P.globals[g0]?).map (·.type) = some t0) :
    ∃ (cs : List Value) (fuel : Nat) (p : List MemPlace), DataW.trod (fun _ => ()) P W 0 (fun _ => true) false fuel t0 cs = some (d, p) ∧ (0 < cs.length → ∃ t, Blk W g0 t cs) := by
  obtain ⟨ps, hl, _, hcell⟩ := laid_data h
  obtain ⟨g, t, cs, fuel, p, hg, ht, hv, hd, hp⟩ := laid_in hl (List.mem_filter.2 ⟨hx, hn⟩)
  obtain rfl := Option.some.inj (hg0.symm.trans hg)
  obtain rfl := Option.some.inj (ht0.symm.trans ht)
  refine ⟨cs.toList, fuel, p, hd, fun h0 => ?_⟩
  obtain ⟨⟨c, t, hc⟩, _⟩ := hcell g0 0 (hp (by simpa using h0))
  refine ⟨t, ?_⟩
  simp only [World.var?, hg, Option.bind_some, hc, Option.some.injEq] at hv
  subst hv
  exact hc
section
variable {H : Type} {enc : TypeId × Value → H} {P : Program} {w : World} {base : Nat} {sp : Nat → Bool} {held : Bool}
theorem laid_ints {fuel : Nat} {t e : TypeId} {n : Nat} {k : IntKind} {cs : List Value} {zs : List Int} {p : List MemPlace} (ht : P.underlying t = some (.array n e)) (he : P.underlying e = some (.int k)) (hc : P.cellsOf e = 1) (hct : P.cellsOf t = n)
    (h : DataW.trod enc P w base sp held fuel t cs = some (.agg (zs.map fun z => .lit (.int k z)), p)) : cs = zs.map fun z => .int k z := by
  obtain ⟨xs, m, _, hx, hl, hn, hat⟩ := DataW.trod_array ht h
  simp only [Prod.mk.injEq, DataW.agg.injEq] at hx
  have hzl : zs.length = n := by
    have := congrArg List.length hx.1
    simp only [List.length_map] at this
    omega
  apply List.ext_getElem?
  intro i
  by_cases hi : i < n
  · have h1 := hat i hi
    rw [hc, Nat.mul_one] at h1
    have hxi : xs[i]? = some (xs[i]'(by omega)) := List.getElem?_eq_getElem (by omega)
    rw [hxi] at h1
    obtain ⟨z, hz, hy, _⟩ := DataW.trod_int he h1
    have h2 : (zs.map fun z => (DataW.lit (.int k z) : DataW H))[i]? = (xs.map (·.1))[i]? := by rw [hx.1]
    rw [List.getElem?_map, List.getElem?_map, hxi, hy, List.getElem?_eq_getElem (show i < zs.length by omega)] at h2
    simp only [Option.map_some, Option.some.injEq, DataW.lit.injEq, Lit.int.injEq, true_and] at h2
    have h3 : cs[i]? = some (.int k z) := by
      have h4 := congrArg (fun l : List Value => l[0]?) hz
      simpa [List.getElem?_take, List.getElem?_drop] using h4
    rw [h3, List.getElem?_map, List.getElem?_eq_getElem (show i < zs.length by omega), ← h2]
    rfl
  · rw [List.getElem?_eq_none (by omega), List.getElem?_eq_none (by simp; omega)]
end
end Go.Proofs.YtcbfchkhbngpkaaGreatDoor
namespace Go.Proofs.YtcbfchkhbngpkaaGreatDoor
open Go.RowKit

def laidL : List (String × DataW Unit) := [("math/bits.deBruijn32tab", Rows.laid_math_bits_deBruijn32tab), ("math/bits.deBruijn64tab", Rows.laid_math_bits_deBruijn64tab), ("internal/strconv.uint64pow10", Rows.laid_internal_strconv_uint64pow10), ("unicode/utf8.acceptRanges", Rows.laid_unicode_utf8_acceptRanges), ("strconv.ErrRange", Rows.laid_strconv_ErrRange), ("strconv.ErrSyntax", Rows.laid_strconv_ErrSyntax), ("unicode/utf8.first", Rows.laid_unicode_utf8_first)]
def db64 : List Int := [0, 1, 56, 2, 57, 49, 28, 3, 61, 58, 42, 50, 38, 29, 17, 4, 62, 47, 59, 36, 45, 43, 51, 22, 53, 39, 33, 30, 24, 18, 12, 5, 63, 55, 48, 27, 60, 41, 37, 16, 46, 35, 44, 21, 52, 32, 23, 11, 54, 26, 40, 15, 34, 20, 31, 10, 25, 14, 19, 9, 13, 8, 7, 6]
set_option maxRecDepth 100000 in
theorem laid_db_is : (Rows.laid_math_bits_deBruijn64tab : DataW Unit) = .agg (db64.map fun z => .lit (.int .u8 z)) := by kernel_rfl
set_option maxRecDepth 100000 in
theorem laid_pow_is : (Rows.laid_internal_strconv_uint64pow10 : DataW Unit) = .agg (Lib.pow10Tab.map fun z => .lit (.int .u64 z)) := by kernel_rfl
/-- a listed variable, as it is looked up by its name -/
theorem laid_var {P : Program} {W : World} {l : List (String × DataW Unit)} (h : laidMetH P l W) {n : String} {d : DataW Unit} (hx : (n, d) ∈ l) (hn : d.handleName?.isNone = true) {g0 : Nat} {t0 : TypeId} (hg0 : P.globalNamed n = some g0) (ht0 : (P.globals[g0]?).map (·.type) = some t0) :
    ∃ (cs : Array Value) (fuel : Nat) (p : List MemPlace), W.var? P n = some cs ∧ DataW.trod (fun _ => ()) P W 0 (fun _ => true) false fuel t0 cs.toList = some (d, p) := by
  obtain ⟨ps, hl, _, _⟩ := laid_data h
  obtain ⟨g, t, cs, fuel, p, hg, ht, hv, hd, _⟩ := laid_in hl (List.mem_filter.2 ⟨hx, hn⟩)
  obtain rfl := Option.some.inj (hg0.symm.trans hg)
  obtain rfl := Option.some.inj (ht0.symm.trans ht)
  exact ⟨cs, fuel, p, hv, hd⟩
theorem lvCf_of {W : World} (h : laidMetH Tryz.prog laidL W) (hs : W.ShapedOpen Tryz.prog) : LvCf W := by
  refine ⟨?_, ?_, ?_, cell_of_shapedOpen_int (t := 3) (zero := #[.int .i64 0]) hs (of_decide_eq_true (by kernel_rfl)) (by kernel_rfl) rfl (by kernel_rfl) (by kernel_rfl) Tryz.underlying3⟩
  · obtain ⟨cs, fuel, p, hv, hd⟩ := laid_var h (.tail _ (.tail _ (.head _))) (by kernel_rfl) (show Tryz.prog.globalNamed "internal/strconv.uint64pow10" = some 0 by kernel_rfl) (show (Tryz.prog.globals[0]?).map (·.type) = some 161 by kernel_rfl)
    rw [laid_pow_is] at hd
    have e := laid_ints Tryz.underlying161 Tryz.underlying90 (by kernel_rfl) (by kernel_rfl) hd
    rw [Lib.TabIs, hv, ← e]
  · obtain ⟨cs, fuel, p, hd, hb⟩ := laid_blk h (.tail _ (.head _)) (by kernel_rfl) (show Tryz.prog.globalNamed "math/bits.deBruijn64tab" = some 7 by kernel_rfl) (show (Tryz.prog.globals[7]?).map (·.type) = some 207 by kernel_rfl)
    rw [laid_db_is] at hd
    have e := laid_ints Tryz.underlying207 Tryz.underlying5 (by kernel_rfl) (by kernel_rfl) hd
    subst e
    obtain ⟨t, hb⟩ := hb (by decide)
    exact hb.cell 15
  · obtain ⟨cs, fuel, p, hv, hd⟩ := laid_var h (.tail _ (.tail _ (.tail _ (.tail _ (.tail _ (.head _)))))) (by kernel_rfl) (show Tryz.prog.globalNamed "strconv.ErrSyntax" = some 2 by kernel_rfl) (show (Tryz.prog.globals[2]?).map (·.type) = some 99 by kernel_rfl)
    obtain ⟨f1, u, v, e, _, _⟩ := iface_of_trod Tryz.underlying99 hd
    refine ⟨u, v, ?_⟩
    rw [hv]
    exact congrArg some (Array.toList_inj.1 e)
end Go.Proofs.YtcbfchkhbngpkaaGreatDoor
namespace Go.Proofs.YtcbfchkhbngpkaaGreatDoor
open Go.RowKit

theorem returns_shaped {H : Type} {enc : TypeId × Value → H} {a : Assume} {C : Checked} {os : Os} {f : FuncId} {fn : Func} {s : ChangeSpec} {conds : List PathCond} {apart fresh handsOn again : Bool} {X : World → Array Value → Prop}
    (hX : ∀ (w w' : World) (args : Array Value), w.heap = w'.heap → X w args → X w' args)
    (own : ownKnob C.prog.godebug = none) (started : os.Started) (noInit : C.prog.inits.idxOf? f = none) (hfn : C.prog.funcs[f]? = some fn)
    (witness : ∃ (w : World) (tape : Tape) (i : Input), w.os = os ∧ (w.forCall tape i).Shaped C.prog ∧ i.vars = [] ∧ Input.okWide C.prog (w.forCall tape i) .any w.heap.size f i ∧
      ((s.pre enc C.prog fn conds apart (w.forCall tape i).memory i.args ∧ X (w.forCall tape i).memory i.args) ∧ sizedMet enc C.prog fn (OpenSpec.ofChange s) apart (w.forCall tape i).memory i.args) ∧ a.holds C.prog (lone (Frame.enter C.prog f i.args .normal) [] (w.forCall tape i)))
    (walk : ∀ (W : World) (base : Nat) (args : Array Value) (ds gs : List (DataW H)) (before : List MemPlace), W.ShapedOpen C.prog →
      (∀ (j : Nat) t v, fn.params[j]? = some t → args[j]? = some v → Value.okWide C.prog W .any base t v) →
      DataW.Whole enc C.prog fn.params.toList s.vars apart W args.toList ds gs before → X W args →
      Calls C.prog f args W fun e W' => ∃ v, e = .returned v ∧ s.post enc C.prog fn apart fresh handsOn again W args v W') :
    ReturnsInHanded a C os f .any (fun w args => (s.pre enc C.prog fn conds apart w args ∧ X w args) ∧ sizedMet enc C.prog fn (OpenSpec.ofChange s) apart w args) (s.post enc C.prog fn apart fresh handsOn again) := by
  refine returnsInHanded_of_calls own started noInit witness ?_
  intro w tape i _ hsh _ hok hpre _
  obtain ⟨_, _, _, fn2, hfn2, _, _, _, _, hval⟩ := hok
  obtain rfl : fn2 = fn := Option.some.inj (hfn2.symm.trans hfn)
  obtain ⟨⟨⟨ds, gs, before, hw, _⟩, hx⟩, _⟩ := hpre
  refine (walk (w.forCall tape i) w.heap.size i.args ds gs before hsh hval (DataW.Whole.of_heap (w' := w.forCall tape i) (by rfl) hw) (hX _ _ _ (by rfl) hx)).mono ?_
  rintro e W' ⟨v, rfl, hp⟩
  exact ChangeSpec.post_blind hp
end Go.Proofs.YtcbfchkhbngpkaaGreatDoor
namespace Go.Proofs.YtcbfchkhbngpkaaGreatDoor
open Go.RowKit

theorem cg_validates_all (w : World) (hlv : LvCf w) (A : Option Addr) (n c : Nat) (l : List UInt8) (what at_ : Nat) (q : Int) (c0 : ConfM) (A0 : Option Addr) (n0 d0 : Nat) (hnc : n ≤ c) (hcm : c ≤ maxLen) (hr : Rd w w.heap.size A n l) (hwh : what ≤ 255) (hat : at_ ≤ 255) (hq : -9223372036854775808 ≤ q ∧ q ≤ 9223372036854775807) (h0 : c0.ok ∧ n0 ≤ d0) (hp0 : PeRd w w.heap.size A0 n0 c0.peers) :
    Calls Tryz.prog 3 #[.slice A n c, .int .u8 (what : Int), .int .u8 (at_ : Int), .int .i64 q, .agg (c0.cells (.slice A0 n0 d0)).toArray] w fun e w' => e = .returned (.bool true) ∧ Below w.heap.size w w' := cg_validates_walk w A n c l what at_ q c0 A0 n0 d0 hnc hcm hr hwh hat hq h0 hp0 hlv
end Go.Proofs.YtcbfchkhbngpkaaGreatDoor
