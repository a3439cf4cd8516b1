/-
  The contract of burrowlaw13's spoilt. No statement is proved here.
-/
import Derived.Test.YtcbfchkhbngpkaaGreatDoorConfigValidatesB10
namespace Go.Proofs.YtcbfchkhbngpkaaGreatDoor
open Go.RowKit

/-- of the two operations that may come up the second is a load -/
theorem load_ro {P : Program} {md : Region.Mode} {ops : Array Oper} {Q : Exit → Act → World → Prop} {S : World → Prop} {r r' : List Oper} {oi oj : Oper} {v : Value} {fuel : Nat} {listed : Array Bool} {a : Act} {w : World} (i j : Nat) (hi : ops.toList.drop i = oi :: r) (hj : ops.toList.drop j = oj :: r')
    (hr : Region.ready md ops listed = [j, i]) (hy : YieldsIf P ops (fun W => W = w) oi v a) (hS : S w)
    (h1 : wpAnyH P md ops Q S fuel (listed.setIfInBounds i true) (a.put oi.dst v) w)
    (h2 : ∀ K' : Act → World → Prop, Shut (∀ a w, S w → (S w → wpAnyH P md ops Q S fuel (listed.setIfInBounds j true) a w) → K' a w) → if Region.wanted oj (yielded ops a.tmps) = true then Oper.wp P oj a w K' Q else K' (a.put oj.dst undef) w) :
    wpAnyH P md ops Q S (fuel + 1) listed a w :=
  wpAnyH_ready hr (by simp) fun x hx => by
    rcases List.mem_cons.1 hx with rfl | hx
    · exact AllReadyH.cons (getElem?_of_drop hj) h2 AllReadyH.nil _ (List.mem_cons_self ..)
    · rw [List.mem_singleton] at hx
      subst hx
      exact hy.wpOp (getElem?_of_drop hi) rfl ⟨hS, h1⟩
theorem conf_port32 {x : ConfM} (h : x.ok) (v : Value) : (x.cells v)[32]? = some (.int .i64 x.port) := by
  have h1 : (x.priv.map u8v).length = 32 := by rw [List.length_map, h.1]
  rw [ConfM.cells, List.getElem?_append_right (by omega), h1]; rfl
theorem conf_set_port {x : ConfM} (h : x.ok) (v : Value) (q : Int) : (x.cells v).set 32 (.int .i64 q) = ConfM.cells ⟨x.priv, q, x.peers⟩ v := by
  have h1 : (x.priv.map u8v).length = 32 := by rw [List.length_map, h.1]
  rw [ConfM.cells, List.set_append_right _ _ (by omega), h1]; rfl
theorem peer_set_pub {p : PeerM} (h : p.ok) (v : Value) (k : List UInt8) (hk : k.length = 32) : setL (p.cells v) 0 (k.map u8v) = PeerM.cells { p with pub := k } v := by
  have h1 : (p.pub.map u8v).length = 32 := by rw [List.length_map, h.1]
  rw [setL, PeerM.cells, PeerM.cells, List.take_zero, List.nil_append, List.length_map, hk, Nat.zero_add, List.drop_append, List.drop_eq_nil_of_le (by omega), h1]
  simp
theorem RowAt.total {base g c : Nat} {no : List Nat} {W : World} {rest : List Value} {ps : List PeerM} {vs : List Value} (h : RowAt base no W g c rest ps vs) : ((peersV ps vs).flatten ++ rest).length = c * 85 := by
  have hlen := flat_length h.cells
  rw [peersV_len ps vs h.len] at hlen
  have := h.size
  rw [List.length_append]
  omega
theorem pref_built1 (q : Int) : Tryz.prog.built 60 [(1, .int .i64 q)] = some (prefC addr0 q).toArray := by
  rw [built_of 60 [17, 1] [addr0.cells, [.int .i64 0]] rfl #[(0, 17), (17, 1)] (fun parts => by kernel_rfl) (fun i h => by
    match i, h with
    | 0, _ => rfl
    | 1, _ => rfl) _ (fun p hp => by
    simp only [List.mem_cons, List.not_mem_nil, or_false] at hp
    subst hp
    rfl)]
  simp [prefC, Value.cells]
theorem i64_and63 (q : Int) : inI64 (bits BinOp.and IntKind.i64 q 63) := by
  have h127 : (BitVec.ofInt 64 (63 : Int)).toNat = 2 ^ 6 - 1 := by decide
  have key : (BitVec.ofInt 64 q &&& BitVec.ofInt 64 (63 : Int)).toNat < 64 := by
    rw [BitVec.toNat_and, h127, Nat.and_two_pow_sub_one_eq_mod]
    exact Nat.mod_lt _ (by decide)
  show inI64 (IntKind.i64.wrap ((BitVec.ofInt 64 q &&& BitVec.ofInt 64 (63 : Int)).toNat : Nat))
  rw [IntWalk.i64_in _ (by omega)]
  exact ⟨by omega, by omega⟩
theorem peerZero : ∃ i, Tryz.prog.info? 57 = some i ∧ i.zero = some (.agg (peer0.cells (.slice none 0 0)).toArray) ∧ i.size = 85 ∧ i.bytes = 136 := by
  have h : (Tryz.prog.info? 57).map (fun i => (i.zero, i.size, i.bytes)) = some (some (.agg (peer0.cells (.slice none 0 0)).toArray), 85, 136) := by kernel_rfl
  cases hi : Tryz.prog.info? 57 with
  | none => rw [hi] at h; cases h
  | some i =>
    rw [hi] at h
    simp only [Option.map_some, Option.some.injEq, Prod.mk.injEq] at h
    exact ⟨i, rfl, h.1, h.2.1, h.2.2⟩
theorem peersV_zeros {ps : List PeerM} {vs : List Value} (hl : vs.length = ps.length) (k : Nat) : (peersV (ps ++ List.replicate k peer0) (vs ++ List.replicate k (.slice none 0 0))).flatten = (peersV ps vs).flatten ++ (List.replicate k (peer0.cells (.slice none 0 0))).flatten := by
  rw [peersV, List.zipWith_append hl.symm, List.flatten_append]
  congr 2
  simp
/-- zero peers are appended -/
theorem RowAt.zeros {base g c : Nat} {no : List Nat} {W W' : World} {rest : List Value} {ps : List PeerM} {vs : List Value} {v : Value} {k n : Nat} (h : RowAt base no W g c rest ps vs) (hn : ps.length = n) (ho : W'.ownsRow base 57 85 v (n + k) ((peersV ps vs).flatten ++ (List.replicate k (peer0.cells (.slice none 0 0))).flatten)) (hg : W.grownBy W' (some g)) (hv : v.ownBlock = some g ∨ v.ownBlock = some W.heap.size) : RowOk base no W' v (ps ++ List.replicate k peer0) := by
  subst hn
  refine .of_own (vs := vs ++ List.replicate k (.slice none 0 0)) (by simp [h.len]) (by rw [peersV_zeros h.len, List.length_append, List.length_replicate]; exact ho) (fun p hp => ?_) fun i p x hp hx => ?_
  · rcases List.mem_append.1 hp with hp | hp
    · exact h.ok p hp
    · rw [List.eq_of_mem_replicate hp]; exact peer0_ok
  · by_cases hi : i < ps.length
    · rw [List.getElem?_append_left hi] at hp
      rw [List.getElem?_append_left (by rw [h.len]; exact hi)] at hx
      have h1 := ((h.pf i p x hp hx).fresh).grown hg (List.mem_cons_of_mem _ (List.mem_cons_self ..))
      refine h1.less fun q hq => ?_
      rcases List.mem_append.1 hq with hq | hq
      · rcases hv with e | e <;> rw [e] at hq <;> simp at hq <;> subst hq <;> simp
      · exact List.mem_cons_of_mem _ (List.mem_cons_of_mem _ hq)
    · rw [List.getElem?_append_right (by omega)] at hp
      rw [List.getElem?_append_right (by rw [h.len]; omega)] at hx
      have e1 := List.eq_of_mem_replicate (List.mem_of_getElem? hp)
      have e2 := List.eq_of_mem_replicate (List.mem_of_getElem? hx)
      subst e1 e2
      exact ⟨none, 0, rfl, by simp [peer0], Nat.zero_le _, PfRd.nil, fun h0 => by simp [peer0] at h0⟩
theorem peer_ep {p : PeerM} (h : p.ok) (v : Value) : (p.cells v)[82]? = some (.int .i64 p.ep) := by
  have h1 : (p.pub.map u8v).length = 32 := by rw [List.length_map, h.1]
  have h2 : (p.sha.map u8v).length = 32 := by rw [List.length_map, h.2.1]
  have h3 := AddrM.cells_length h.2.2.1
  rw [PeerM.cells, List.getElem?_append_right (by omega), List.getElem?_append_right (by omega), h1, h2, show 82 - 32 - 32 = 17 + 1 from rfl, List.getElem?_cons_succ, prefC, List.append_assoc, List.getElem?_append_right (by omega), h3]; rfl
theorem peer_set_ep {p : PeerM} (h : p.ok) (v : Value) (q : Int) : (p.cells v).set 82 (.int .i64 q) = PeerM.cells { p with ep := q } v := by
  have h1 : (p.pub.map u8v).length = 32 := by rw [List.length_map, h.1]
  have h2 : (p.sha.map u8v).length = 32 := by rw [List.length_map, h.2.1]
  have h3 := AddrM.cells_length h.2.2.1
  rw [PeerM.cells, List.set_append_right _ _ (by omega), List.set_append_right _ _ (by omega), h1, h2, show 82 - 32 - 32 = 17 + 1 from rfl, List.set_cons_succ, prefC, List.append_assoc, List.set_append_right _ _ (by omega), h3]
  simp [PeerM.cells, prefC]
set_option maxRecDepth 100000 in
set_option maxHeartbeats 8000000 in
theorem spoilt_any (x : ConfM) (A : Option Addr) (n cap what at_ : Nat) (q : Int) (hq : inI64 q) (hwh : what ≤ 255) (hat : at_ ≤ 255) (w : World) (hc : x.ok) (hr : PeRd w w.heap.size A n x.peers) (hcap : n ≤ cap) :
    Calls Tryz.prog 7 #[.agg (x.cells (.slice A n cap)).toArray, .int .u8 (what : Int), .int .u8 (at_ : Int), .int .i64 q] w fun e w' => ∃ (y : ConfM) (v : Value), e = .returned (.agg (y.cells v).toArray) ∧ y.ok ∧ y.peers.length ≤ 20 ∧ (∀ p ∈ y.peers, p.al.length ≤ 20) ∧ ∃ A' d, v = .slice A' y.peers.length d ∧ y.peers.length ≤ d ∧ PeRd w' w'.heap.size A' y.peers.length y.peers ∧ Below w.heap.size w w' := by
  obtain ⟨zc, hzc⟩ : ∃ z : Array Value, #[.int .u8 0, .int .u8 0, .int .u8 0, .int .u8 0, .int .u8 0, .int .u8 0, .int .u8 0, .int .u8 0, .int .u8 0, .int .u8 0, .int .u8 0, .int .u8 0, .int .u8 0, .int .u8 0, .int .u8 0, .int .u8 0, .int .u8 0, .int .u8 0, .int .u8 0, .int .u8 0, .int .u8 0, .int .u8 0, .int .u8 0, .int .u8 0, .int .u8 0, .int .u8 0, .int .u8 0, .int .u8 0, .int .u8 0, .int .u8 0, .int .u8 0, .int .u8 0, .int .i64 0, .slice none 0 0] = z := ⟨_, rfl⟩
  have HZC := Lib.hid (show zc.toList.length = 34 from by rw [← hzc]; rfl)
  have HC := Lib.hid hc
  have HR := Lib.hid hr
  have HQ := Lib.hid hq
  obtain ⟨ca, hca⟩ : ∃ z, (x.cells (.slice A n cap)).toArray = z := ⟨_, rfl⟩
  have HCA := Lib.hid hca
  rw [hca]
  have hba := (Below.refl w.heap.size w).alloc (Nat.le_refl _) (.cells ca 27)
  have hbb := hba.alloc (Nat.le_of_lt (by simp)) (.cells zc 27)
  have HB0 := Lib.hid hbb
  have HK1 := Lib.hid (show Blk ((w.alloc (.cells ca 27)).alloc (.cells zc 27)) w.heap.size 27 (x.cells (.slice A n cap)) from by
    have h1 : Blk (w.alloc (.cells ca 27)) w.heap.size 27 (x.cells (.slice A n cap)) := by rw [← hca]; exact Blk.new w 27 _
    exact h1.below ((Below.refl _ _).alloc (Nat.le_refl _) _) (by simp))
  have HK2 := Lib.hid (show Blk ((w.alloc (.cells ca 27)).alloc (.cells zc 27)) (w.heap.size + 1) 27 zc.toList from by
    have h1 := Blk.new (w.alloc (.cells ca 27)) 27 zc.toList
    simpa using h1)
  have HG := Lib.hid (show ((w.alloc (.cells ca 27)).alloc (.cells zc 27)).heap.size = w.heap.size + 2 from by simp)
  clear hca hba hbb hc hr
  go_enter Tryz.func7, Tryz.ntmps7
  go_upto_region 1 with fail
  clear hzc
  generalize (w.alloc (.cells ca 27)).alloc (.cells zc 27) = w1 at HB0 HK1 HK2 HG ⊢
  have HCT := Lib.hid (cut_any x A n cap w.heap.size [w.heap.size, w.heap.size + 1] w1 (by have := HG.out; omega) (by intro k hk; simp at hk; omega) HC.out (HR.out.below HB0.out) hcap)
  rw [HCA.out] at HCT
  go_wp2_with (first | ((with_reducible refine at_op (.load 27 (.tmp 4)) rfl ?_); refine wpList_load_obj rfl 27 (.tmp 4) rfl w.heap.size 0 rfl _ HK1.out.all _ Tryz.underlying27 rfl (conf_cellsOf x HC.out _) ?_; rw [HCA.out]))
  refine HCT.out.mono ?_
  rintro e w2 ⟨y, v, rfl, hyo, hyl, hya, _, _, hro, hbl⟩
  have HOK := Lib.hid hyo
  have HLN := Lib.hid (show y.peers.length ≤ 20 ∧ ∀ p ∈ y.peers, p.al.length ≤ 20 from ⟨by omega, fun p hp => by have := hya p hp; omega⟩)
  have HL10 := Lib.hid (And.intro hyl hya)
  have hk1 := HK1.out.below hbl HK1.out.lt
  have hk2 := HK2.out.below hbl HK2.out.lt
  have hbl2 := HB0.out.trans (hbl.mono HB0.out.size)
  obtain ⟨A5, d5, rfl, hd5, _⟩ := hro.rd
  generalize w1.heap.size = b1 at HG hro
  have HRO := Lib.hid hro
  have HK1' := Lib.hid hk1
  have HK2' := Lib.hid hk2
  have HBL := Lib.hid hbl2
  obtain ⟨yc, hyc⟩ : ∃ z, (y.cells (.slice A5 y.peers.length d5)).toArray = z := ⟨_, rfl⟩
  have HYC := Lib.hid hyc
  rw [hyc]
  obtain ⟨m, hm⟩ : ∃ m, y.peers.length = m := ⟨_, rfl⟩
  have HM := Lib.hid hm
  clear hyo hyl hya hro hbl hk1 hk2 hbl2 HCT HCA HK1 HK2 HB0 HR hyc hcap
  go_upto_region 2 with (((with_reducible refine at_op (.store 27 (.tmp 4) (.tmp 11)) rfl ?_); refine wpList_store_obj rfl 27 (.tmp 4) (.tmp 11) rfl w.heap.size 0 (y.cells (.slice A5 y.peers.length d5)) (by rfl) (by show Value.agg yc = _; rw [HYC.out]) 27 _ HK1'.out (conf_cellsOf y HOK.out _) (by rw [ConfM.cells_length HOK.out, ConfM.cells_length HC.out]; omega) (conf_one _ _ _ _) ?_; intro w3 hb3 hg3))
  rw [setL_all _ _ (by rw [ConfM.cells_length HOK.out, ConfM.cells_length HC.out])] at hb3
  have HK1 := Lib.hid hb3
  have HK2 := Lib.hid (show Blk w3 (w.heap.size + 1) 27 zc.toList from by unfold Blk; rw [hg3.block _ HK2'.out.lt (by simp)]; exact HK2'.out)
  replace HRO := Lib.hid (HRO.out.other hg3 (by simp) (by have := HG.out; omega))
  replace HBL := Lib.hid (HBL.out.grown hg3 (by have := HBL.out.size; omega) (by intro k hk; injection hk with hk; omega))
  have fx : w3.cell? ⟨w.heap.size, 33, none⟩ = some (.slice A5 y.peers.length d5) := by rw [hb3.cell]; exact conf_at HOK.out _
  have zx := hb3.frozen 32
  have fy : w3.cell? ⟨w.heap.size, 32, none⟩ = some (.int .i64 y.port) := by rw [hb3.cell]; exact conf_port32 HOK.out _
  clear hb3 hg3 HK1' HK2' HYC HC
  by_cases h0 : m = 0
  · have e0 : ((y.peers.length : Int) == 0) = true := by rw [hm, h0]; rfl
    go_upto_region 4 with fail
    have hk1 := HK1.out.set_ 32 (.int .i64 q)
    rw [conf_set_port HOK.out] at hk1
    have hgc := grown_cell w3 w.heap.size 32 (.int .i64 q)
    replace HK2 := Lib.hid (show Blk (w3.setCell ⟨w.heap.size, 32, none⟩ (.int .i64 q)) (w.heap.size + 1) 27 zc.toList from by unfold Blk; rw [hgc.block _ HK2.out.lt (by simp)]; exact HK2.out)
    replace HRO := Lib.hid (HRO.out.other hgc (by simp) (by have := HG.out; omega))
    replace HBL := Lib.hid (HBL.out.grown hgc (by have := HBL.out.size; omega) (by intro k hk; injection hk with hk; omega))
    have HK1 := Lib.hid hk1
    have HOK2 := Lib.hid (show (ConfM.mk y.priv q y.peers).ok from ⟨HOK.out.1, HQ.out, HOK.out.2.2⟩)
    clear fx zx fy hk1 hgc HOK
    obtain ⟨y2, hy2⟩ : ∃ z : ConfM, ⟨y.priv, q, y.peers⟩ = z := ⟨_, rfl⟩
    have hpe : y.peers = y2.peers := by rw [← hy2]
    have HOK := Lib.hid (show y2.ok from by rw [← hy2]; exact HOK2.out)
    rw [show (ConfM.mk y.priv q y.peers) = y2 from hy2] at HK1
    rw [hpe] at HK1 HRO HLN
    generalize w3.setCell ⟨w.heap.size, 32, none⟩ (.int .i64 q) = w4 at HK1 HK2 HRO HBL ⊢
    clear hm HM hy2 HOK2
    obtain ⟨cc, hcc⟩ : ∃ z, (y2.cells (.slice A5 y2.peers.length d5)).toArray = z := ⟨_, rfl⟩
    have HCC := Lib.hid hcc
    clear hcc
    have HONE := Lib.hid (show ∀ u ∈ y2.cells (.slice A5 y2.peers.length d5), u.oneCell' = true from by
      obtain ⟨A9, d9, e9, _⟩ := HRO.out.rd
      rw [e9]
      exact conf_one _ _ _ _)
    go_wp2_with (first | ((with_reducible refine at_op (.load 27 (.tmp 4)) rfl ?_); refine wpList_load_obj rfl 27 (.tmp 4) rfl w.heap.size 0 rfl _ HK1.out.all _ Tryz.underlying27 rfl (conf_cellsOf y2 HOK.out _) ?_; rw [HCC.out]) | ((with_reducible refine at_op (.store 27 (.tmp 8) (.tmp 18)) rfl ?_); refine wpList_store_obj rfl 27 (.tmp 8) (.tmp 18) rfl (w.heap.size + 1) 0 (y2.cells (.slice A5 y2.peers.length d5)) (by rfl) (by show Value.agg cc = _; rw [HCC.out]) 27 zc.toList HK2.out (conf_cellsOf y2 HOK.out _) (by rw [ConfM.cells_length HOK.out, HZC.out]; omega) HONE.out ?_; intro w9 hb9 hg9))
    rw [setL_all zc.toList _ (by rw [ConfM.cells_length HOK.out, HZC.out])] at hb9
    have hro9 := HRO.out.other hg9 (by simp) (by have := HG.out; omega)
    obtain ⟨A9, d9, e9, hd9, hp9⟩ := hro9.rd
    exact bodyPost_ret (results_obj rfl _ _ (w.heap.size + 1) 27 (y2.cells (.slice A5 y2.peers.length d5)) _ rfl hb9 Tryz.underlying27 rfl (conf_cellsOf y2 HOK.out _)) rfl ⟨y2, (.slice A5 y2.peers.length d5), rfl, HOK.out, HLN.out.1, HLN.out.2, A9, d9, e9, hd9, hp9, HBL.out.grown hg9 (by have := HBL.out.size; omega) (by intro k hk; injection hk with hk; omega)⟩
  · have e0 : ((y.peers.length : Int) == 0) = false := by rw [hm]; exact beq_false_of_ne (by omega)
    go_upto_region 5 with fail
    clear fx zx fy
    rcases HRO.out with ⟨h1, _⟩ | ⟨g5, d6, rest, vs, hv, hat5⟩
    · exact absurd (by rw [← hm, h1]; rfl) h0
    · injection hv with hvA _ hvc
      subst hvA hvc
      obtain ⟨qi, hqi⟩ : ∃ z, at_ % m = z := ⟨_, rfl⟩
      have hqm : qi < m := by rw [← hqi]; exact Nat.mod_lt _ (by omega)
      have HQI := Lib.hid (show (IntKind.i64.wrap (at_ : Int)).tmod (m : Int) = (qi : Int) ∧ qi < m ∧ ((0 : Int) ≤ (qi : Int) ∧ (qi : Int) < (m : Int)) from ⟨by rw [show IntKind.i64.wrap (at_ : Int) = (at_ : Int) from by rw [IntKind.wrap_i64]; omega, Int.tmod_eq_emod_of_nonneg (by omega), ← hqi]; rfl, hqm, by omega⟩)
      rw [hm] at HK1
      (try rw [hm])
      have HML := Lib.hid (show m ≤ d5 ∧ m ≤ 10 from by have := HL10.out.1; omega)
      clear hd5 hqi
      refine wp_region_held_drew (S := fun W' => Blk W' w.heap.size 27 (y.cells (.slice (some ⟨g5, 0, none⟩) m d5))) (by kernel_rfl) (HK1.out) (fun hHeld => ?_)
      have HK1d := Lib.hid (show Blk w3.drew w.heap.size 27 (y.cells (.slice (some ⟨g5, 0, none⟩) m d5)) from HK1.out)
      have HK2d := Lib.hid (show Blk w3.drew (w.heap.size + 1) 27 zc.toList from HK2.out)
      have HRA := Lib.hid (hat5.below ((Below.refl _ _).drew))
      have HBd := Lib.hid HBL.out.drew
      clear hat5 HRO HBL HK1 HK2
      generalize w3.drew = wd at HK1d HK2d HRA HBd hHeld ⊢
      refine take_first (v := ?_) 0 rfl (by kernel_rfl) (by kernel_rfl) (by kernel_rfl) (fun _ _ _ h => h) (Or.inl ⟨by rfl, ?_⟩) (by assumption) ?_
      rotate_left
      · (intro w hSw; (try dsimp only at hSw); go_simp; try with_reducible rfl)
      (try simp only [Act.put, List.setIfInBounds_toArray, List.set_cons_zero, List.set_cons_succ])
      refine take_first (v := ?_) 1 rfl (by kernel_rfl) (by kernel_rfl) (by kernel_rfl) (fun _ _ _ h => h) (Or.inl ⟨by rfl, ?_⟩) (by assumption) ?_
      rotate_left
      · (intro w hSw; (try dsimp only at hSw); have fx := hSw.cell 33; rw [conf_at HOK.out _] at fx; go_simp; try with_reducible rfl)
      (try simp only [Act.put, List.setIfInBounds_toArray, List.set_cons_zero, List.set_cons_succ])
      refine take_first (v := ?_) 2 rfl (by kernel_rfl) (by kernel_rfl) (by kernel_rfl) (fun _ _ _ h => h) (Or.inl ⟨by rfl, ?_⟩) (by assumption) ?_
      rotate_left
      · (intro w hSw; (try dsimp only at hSw); go_simp; try with_reducible rfl)
      (try simp only [Act.put, List.setIfInBounds_toArray, List.set_cons_zero, List.set_cons_succ])
      refine take_first (v := ?_) 3 rfl (by kernel_rfl) (by kernel_rfl) (by kernel_rfl) (fun _ _ _ h => h) (Or.inl ⟨by rfl, ?_⟩) (by assumption) ?_
      rotate_left
      · (intro w hSw; (try dsimp only at hSw); go_simp; try with_reducible rfl)
      (try simp only [Act.put, List.setIfInBounds_toArray, List.set_cons_zero, List.set_cons_succ])
      refine take_first (v := ?_) 4 rfl (by kernel_rfl) (by kernel_rfl) (by kernel_rfl) (fun _ _ _ h => h) (Or.inl ⟨by rfl, ?_⟩) (by assumption) ?_
      rotate_left
      · (intro w hSw; (try dsimp only at hSw); go_simp; try with_reducible rfl)
      (try simp only [Act.put, List.setIfInBounds_toArray, List.set_cons_zero, List.set_cons_succ])
      refine take_first (v := ?_) 5 rfl (by kernel_rfl) (by kernel_rfl) (by kernel_rfl) (fun _ _ _ h => h) (Or.inl ⟨by rfl, ?_⟩) (by assumption) ?_
      rotate_left
      · (intro w hSw; (try dsimp only at hSw); have fx := hSw.cell 33; rw [conf_at HOK.out _] at fx; go_simp; try with_reducible rfl)
      (try simp only [Act.put, List.setIfInBounds_toArray, List.set_cons_zero, List.set_cons_succ])
      refine take_first (v := ?_) 6 rfl (by kernel_rfl) (by kernel_rfl) (by kernel_rfl) (fun _ _ _ h => h) (Or.inl ⟨by rfl, ?_⟩) (by assumption) ?_
      rotate_left
      · (intro w hSw; (try dsimp only at hSw); go_simp; try with_reducible rfl)
      (try simp only [Act.put, List.setIfInBounds_toArray, List.set_cons_zero, List.set_cons_succ])
      refine take_first (v := ?_) 7 rfl (by kernel_rfl) (by kernel_rfl) (by kernel_rfl) (fun _ _ _ h => h) (Or.inl ⟨by rfl, ?_⟩) (by assumption) ?_
      rotate_left
      · (intro w hSw; (try dsimp only at hSw); go_simp; try with_reducible rfl)
      (try simp only [Act.put, List.setIfInBounds_toArray, List.set_cons_zero, List.set_cons_succ])
      refine take_first (v := ?_) 8 rfl (by kernel_rfl) (by kernel_rfl) (by kernel_rfl) (fun _ _ _ h => h) (Or.inl ⟨by rfl, ?_⟩) (by assumption) ?_
      rotate_left
      · (intro w hSw; (try dsimp only at hSw); simp only [HQI.out.1]; have fz := HQI.out.2.2; go_simp; (try simp only [Int.toNat_natCast]); try with_reducible rfl)
      (try simp only [Act.put, List.setIfInBounds_toArray, List.set_cons_zero, List.set_cons_succ])
      refine take_first (v := ?_) 9 rfl (by kernel_rfl) (by kernel_rfl) (by kernel_rfl) (fun _ _ _ h => h) (Or.inl ⟨by rfl, ?_⟩) (by assumption) ?_
      rotate_left
      · (intro w hSw; (try dsimp only at hSw); go_simp; try with_reducible rfl)
      (try simp only [Act.put, List.setIfInBounds_toArray, List.set_cons_zero, List.set_cons_succ])
      refine wpAnyH_done (by kernel_rfl) ?_ _
      clear hHeld
      obtain ⟨z8, hz8⟩ : ∃ z : Int, ((what : Int)).tmod 8 = z := ⟨_, rfl⟩
      have hz := Int.tmod_eq_emod_of_nonneg (a := (what : Int)) (b := 8) (by omega)
      have hz2 : z8 = 0 ∨ z8 = 1 ∨ z8 = 2 ∨ z8 = 3 ∨ z8 = 4 ∨ z8 = 5 ∨ z8 = 6 ∨ z8 = 7 := by omega
      clear hz
      obtain ⟨p, hp⟩ : ∃ p, y.peers[qi]? = some p := ⟨y.peers[qi]'(by omega), List.getElem?_eq_getElem _⟩
      obtain ⟨xv, hx⟩ : ∃ z, vs[qi]? = some z := ⟨vs[qi]'(by rw [HRA.out.len]; omega), List.getElem?_eq_getElem _⟩
      have HP := Lib.hid (And.intro hp (And.intro hx (HRA.out.ok p (List.mem_of_getElem? hp))))
      have HPF := Lib.hid (HRA.out.pf qi p xv hp hx)
      have HAT := Lib.hid (HRA.out.at hp hx)
      clear hp hx
      have HFZ := Lib.hid (fun j => HRA.out.blk.frozen j)
      rcases hz2 with rfl | rfl | rfl | rfl | rfl | rfl | rfl | rfl
      · have fb : wd.cell? ⟨w.heap.size, 32, none⟩ = some (.int .i64 y.port) := by rw [HK1d.out.cell]; exact conf_port32 HOK.out _
        have zb := HK1d.out.frozen 32
        go_upto_region 22 with fail
        clear fb zb
        have hk1 := HK1d.out.set_ 32 (.int .i64 q)
        rw [conf_set_port HOK.out] at hk1
        have hgc := grown_cell wd w.heap.size 32 (.int .i64 q)
        have HK2 := Lib.hid (show Blk (wd.setCell ⟨w.heap.size, 32, none⟩ (.int .i64 q)) (w.heap.size + 1) 27 zc.toList from by unfold Blk; rw [hgc.block _ HK2d.out.lt (by simp)]; exact HK2d.out)
        have HRO := Lib.hid ((show RowOk b1 [w.heap.size, w.heap.size + 1] wd (.slice (some ⟨g5, 0, none⟩) m d5) y.peers from .inr ⟨g5, d5, rest, _, by rw [hm], HRA.out⟩).other hgc (by simp) (by have := HG.out; omega))
        have HBL := Lib.hid (HBd.out.grown hgc (by have := HBd.out.size; omega) (by intro k hk; injection hk with hk; omega))
        have HK1 := Lib.hid hk1
        have hok2 : (ConfM.mk y.priv q y.peers).ok := ⟨HOK.out.1, HQ.out, HOK.out.2.2⟩
        replace HOK := Lib.hid hok2
        generalize (wd.setCell ⟨w.heap.size, 32, none⟩ (.int .i64 q)) = w4 at HK1 HK2 HBL HRO ⊢
        clear hgc HAT HFZ HRA HPF HP hk1 hok2 HK1d HK2d HBd
        obtain ⟨cc, hcc⟩ : ∃ z, ((ConfM.mk y.priv q y.peers).cells (.slice (some ⟨g5, 0, none⟩) m d5)).toArray = z := ⟨_, rfl⟩
        have HCC := Lib.hid hcc
        clear hcc
        have HONE := Lib.hid (show ∀ u ∈ (ConfM.mk y.priv q y.peers).cells (.slice (some ⟨g5, 0, none⟩) m d5), u.oneCell' = true from by
          obtain ⟨A9, d9, e9, _⟩ := HRO.out.rd
          rw [e9]
          exact conf_one _ _ _ _)
        go_wp2_with (first | ((with_reducible refine at_op (.load 27 (.tmp 4)) rfl ?_); refine wpList_load_obj rfl 27 (.tmp 4) rfl w.heap.size 0 rfl _ HK1.out.all _ Tryz.underlying27 rfl (conf_cellsOf (ConfM.mk y.priv q y.peers) HOK.out _) ?_; rw [HCC.out]) | ((with_reducible refine at_op (.store 27 (.tmp 8) (.tmp 104)) rfl ?_); refine wpList_store_obj rfl 27 (.tmp 8) (.tmp 104) rfl (w.heap.size + 1) 0 ((ConfM.mk y.priv q y.peers).cells (.slice (some ⟨g5, 0, none⟩) m d5)) (by rfl) (by show Value.agg cc = _; rw [HCC.out]) 27 zc.toList HK2.out (conf_cellsOf (ConfM.mk y.priv q y.peers) HOK.out _) (by rw [ConfM.cells_length HOK.out, HZC.out]; omega) HONE.out ?_; intro w9 hb9 hg9))
        rw [setL_all zc.toList _ (by rw [ConfM.cells_length HOK.out, HZC.out])] at hb9
        have hro9 := HRO.out.other hg9 (by simp) (by have := HG.out; omega)
        obtain ⟨A9, d9, e9, hd9, hp9⟩ := hro9.rd
        exact bodyPost_ret (results_obj rfl _ _ (w.heap.size + 1) 27 ((ConfM.mk y.priv q y.peers).cells (.slice (some ⟨g5, 0, none⟩) m d5)) _ rfl hb9 Tryz.underlying27 rfl (conf_cellsOf (ConfM.mk y.priv q y.peers) HOK.out _)) rfl ⟨(ConfM.mk y.priv q y.peers), (.slice (some ⟨g5, 0, none⟩) m d5), rfl, HOK.out, HLN.out.1, HLN.out.2, A9, d9, e9, hd9, hp9, HBL.out.grown hg9 (by have := HBL.out.size; omega) (by intro k hk; injection hk with hk; omega)⟩
      · obtain ⟨p0, hp0⟩ : ∃ z, y.peers[0]? = some z := ⟨y.peers[0]'(by omega), List.getElem?_eq_getElem _⟩
        obtain ⟨x0, hx0⟩ : ∃ z, vs[0]? = some z := ⟨vs[0]'(by rw [HRA.out.len]; omega), List.getElem?_eq_getElem _⟩
        have HO0 := Lib.hid (HRA.out.ok p0 (List.mem_of_getElem? hp0))
        have HA0 := Lib.hid (show At wd g5 0 (p0.pub.map u8v) from peer_pubB (by simpa using HRA.out.at hp0 hx0))
        obtain ⟨pc, hpc⟩ : ∃ z, (p0.pub.map u8v).toArray = z := ⟨_, rfl⟩
        have HPC := Lib.hid hpc
        have fb : wd.cell? ⟨w.heap.size, 33, none⟩ = some (.slice (some ⟨g5, 0, none⟩) m d5) := by rw [HK1d.out.cell]; exact conf_at HOK.out _
        have hm0 : 0 < m := by omega
        clear hp0 hx0 hpc
        go_upto_region 22 with (first | ((with_reducible refine at_op (.load 24 (.tmp 47)) rfl ?_); refine wpList_load_obj rfl 24 (.tmp 47) rfl g5 0 rfl (p0.pub.map u8v) HA0.out _ Tryz.underlying24 rfl (key_cellsOf _ HO0.out.1) ?_; rw [HPC.out]) | ((with_reducible refine at_op (.store 24 (.tmp 50) (.tmp 48)) rfl ?_); refine wpList_store_obj rfl 24 (.tmp 50) (.tmp 48) rfl g5 (qi * 85) (p0.pub.map u8v) (by rfl) (by show Value.agg pc = _; rw [HPC.out]) 57 _ HRA.out.blk (key_cellsOf _ HO0.out.1) (by rw [HRA.out.total, List.length_map, HO0.out.1]; have := HML.out; omega) (u8v_one _) ?_; intro w4 hb4 hgc))
        clear fb
        have hra := HRA.out.put (p' := { p with pub := p0.pub }) (x' := xv) HP.out.1 HP.out.2.1 0 (p0.pub.map u8v) (by rw [List.length_map, HO0.out.1]; omega) (peer_set_pub HP.out.2.2 _ _ HO0.out.1) ⟨HO0.out.1, HP.out.2.2.2⟩ HPF.out hgc hb4
        replace HK2d := Lib.hid (show Blk w4 (w.heap.size + 1) 27 zc.toList from by unfold Blk; rw [hgc.block _ HK2d.out.lt (by simp; have := HRA.out.low; have := HG.out; omega)]; exact HK2d.out)
        replace HK1d := Lib.hid (show Blk w4 w.heap.size 27 (y.cells (.slice (some ⟨g5, 0, none⟩) m d5)) from by unfold Blk; rw [hgc.block _ HK1d.out.lt (by simp; have := HRA.out.low; have := HG.out; omega)]; exact HK1d.out)
        replace HBd := Lib.hid (HBd.out.grown hgc (by have := HBd.out.size; omega) (by intro k hk; injection hk with hk; have := HRA.out.low; have := HG.out; omega))
        have hl2 : (y.peers.set qi { p with pub := p0.pub }).length = m := by rw [List.length_set]; exact hm
        have HRO := Lib.hid (show RowOk b1 [w.heap.size, w.heap.size + 1] _ (.slice (some ⟨g5, 0, none⟩) m d5) (y.peers.set qi { p with pub := p0.pub }) from .inr ⟨g5, d5, rest, _, by rw [hl2], hra⟩)
        have HLN2 := Lib.hid (show (y.peers.set qi { p with pub := p0.pub }).length ≤ 20 ∧ ∀ p' ∈ y.peers.set qi { p with pub := p0.pub }, p'.al.length ≤ 20 from ⟨by have := HML.out.2; omega, fun p2 hp2 => by
          rcases List.mem_or_eq_of_mem_set hp2 with h | rfl
          · exact HLN.out.2 _ h
          · exact HLN.out.2 p (List.mem_of_getElem? HP.out.1)⟩)
        have hok2 : (ConfM.mk y.priv y.port (y.peers.set qi { p with pub := p0.pub })).ok := ⟨HOK.out.1, HOK.out.2.1, hra.ok⟩
        generalize y.peers.set qi { p with pub := p0.pub } = ps2 at HRO HLN2 hok2 hl2
        replace HOK := Lib.hid hok2
        replace HLN := Lib.hid (show (ConfM.mk y.priv y.port ps2).peers.length ≤ 20 ∧ ∀ p' ∈ (ConfM.mk y.priv y.port ps2).peers, p'.al.length ≤ 20 from HLN2.out)
        clear HLN2 hok2 hra
        clear hgc hb4 HAT HFZ HRA HPF HP HO0 HA0 HPC
        have HK1 := Lib.hid (show Blk _ w.heap.size 27 (ConfM.cells ⟨y.priv, y.port, ps2⟩ (.slice (some ⟨g5, 0, none⟩) m d5)) from HK1d.out)
        have HK2 := HK2d
        have HBL := HBd
        clear HK1d HK2d HBd
        obtain ⟨cc, hcc⟩ : ∃ z, ((ConfM.mk y.priv y.port ps2).cells (.slice (some ⟨g5, 0, none⟩) m d5)).toArray = z := ⟨_, rfl⟩
        have HCC := Lib.hid hcc
        clear hcc
        have HONE := Lib.hid (show ∀ u ∈ (ConfM.mk y.priv y.port ps2).cells (.slice (some ⟨g5, 0, none⟩) m d5), u.oneCell' = true from by
          obtain ⟨A9, d9, e9, _⟩ := HRO.out.rd
          rw [e9]
          exact conf_one _ _ _ _)
        go_wp2_with (first | ((with_reducible refine at_op (.load 27 (.tmp 4)) rfl ?_); refine wpList_load_obj rfl 27 (.tmp 4) rfl w.heap.size 0 rfl _ HK1.out.all _ Tryz.underlying27 rfl (conf_cellsOf (ConfM.mk y.priv y.port ps2) HOK.out _) ?_; rw [HCC.out]) | ((with_reducible refine at_op (.store 27 (.tmp 8) (.tmp 104)) rfl ?_); refine wpList_store_obj rfl 27 (.tmp 8) (.tmp 104) rfl (w.heap.size + 1) 0 ((ConfM.mk y.priv y.port ps2).cells (.slice (some ⟨g5, 0, none⟩) m d5)) (by rfl) (by show Value.agg cc = _; rw [HCC.out]) 27 zc.toList HK2.out (conf_cellsOf (ConfM.mk y.priv y.port ps2) HOK.out _) (by rw [ConfM.cells_length HOK.out, HZC.out]; omega) HONE.out ?_; intro w9 hb9 hg9))
        rw [setL_all zc.toList _ (by rw [ConfM.cells_length HOK.out, HZC.out])] at hb9
        have hro9 := HRO.out.other hg9 (by simp) (by have := HG.out; omega)
        obtain ⟨A9, d9, e9, hd9, hp9⟩ := hro9.rd
        exact bodyPost_ret (results_obj rfl _ _ (w.heap.size + 1) 27 ((ConfM.mk y.priv y.port ps2).cells (.slice (some ⟨g5, 0, none⟩) m d5)) _ rfl hb9 Tryz.underlying27 rfl (conf_cellsOf (ConfM.mk y.priv y.port ps2) HOK.out _)) rfl ⟨(ConfM.mk y.priv y.port ps2), (.slice (some ⟨g5, 0, none⟩) m d5), rfl, HOK.out, HLN.out.1, HLN.out.2, A9, d9, e9, hd9, hp9, HBL.out.grown hg9 (by have := HBL.out.size; omega) (by intro k hk; injection hk with hk; omega)⟩
      · have fp := HAT.out 64 _ (peer_at HP.out.2.2 _).1
        have zo := HFZ.out (qi * 85 + 64)
        go_upto_region 22 with fail
        have hra := HRA.out.cell (p' := { p with hasE := !p.hasE }) (x' := xv) HP.out.1 HP.out.2.1 64 (.bool (!p.hasE)) (by omega) (peer_set_has HP.out.2.2 _ _) (⟨HP.out.2.2.1, HP.out.2.2.2.1, HP.out.2.2.2.2⟩) (HPF.out)
        have hgc := grown_cell wd g5 (qi * 85 + 64) (.bool (!p.hasE))
        replace HK2d := Lib.hid (show Blk (wd.setCell ⟨g5, qi * 85 + 64, none⟩ (.bool (!p.hasE))) (w.heap.size + 1) 27 zc.toList from by unfold Blk; rw [hgc.block _ HK2d.out.lt (by simp; have := HRA.out.low; have := HG.out; omega)]; exact HK2d.out)
        replace HK1d := Lib.hid (show Blk (wd.setCell ⟨g5, qi * 85 + 64, none⟩ (.bool (!p.hasE))) w.heap.size 27 (y.cells (.slice (some ⟨g5, 0, none⟩) m d5)) from by unfold Blk; rw [hgc.block _ HK1d.out.lt (by simp; have := HRA.out.low; have := HG.out; omega)]; exact HK1d.out)
        replace HBd := Lib.hid (HBd.out.grown hgc (by have := HBd.out.size; omega) (by intro k hk; injection hk with hk; have := HRA.out.low; have := HG.out; omega))
        have hl2 : (y.peers.set qi { p with hasE := !p.hasE }).length = m := by rw [List.length_set]; exact hm
        have HRO := Lib.hid (show RowOk b1 [w.heap.size, w.heap.size + 1] _ (.slice (some ⟨g5, 0, none⟩) m d5) (y.peers.set qi { p with hasE := !p.hasE }) from .inr ⟨g5, d5, rest, _, by rw [hl2], hra⟩)
        have HLN2 := Lib.hid (show (y.peers.set qi { p with hasE := !p.hasE }).length ≤ 20 ∧ ∀ p' ∈ y.peers.set qi { p with hasE := !p.hasE }, p'.al.length ≤ 20 from ⟨by have := HML.out.2; omega, fun p2 hp2 => by
          rcases List.mem_or_eq_of_mem_set hp2 with h | rfl
          · exact HLN.out.2 _ h
          · exact HLN.out.2 p (List.mem_of_getElem? HP.out.1)⟩)
        have hok2 : (ConfM.mk y.priv y.port (y.peers.set qi { p with hasE := !p.hasE })).ok := ⟨HOK.out.1, HOK.out.2.1, hra.ok⟩
        generalize y.peers.set qi { p with hasE := !p.hasE } = ps2 at HRO HLN2 hok2 hl2
        replace HOK := Lib.hid hok2
        replace HLN := Lib.hid (show (ConfM.mk y.priv y.port ps2).peers.length ≤ 20 ∧ ∀ p' ∈ (ConfM.mk y.priv y.port ps2).peers, p'.al.length ≤ 20 from HLN2.out)
        clear HLN2 hok2 hra
        generalize (wd.setCell ⟨g5, qi * 85 + 64, none⟩ (.bool (!p.hasE))) = w4 at HK1d HK2d HBd HRO ⊢
        clear hgc HAT HFZ HRA HPF HP
        have HK1 := Lib.hid (show Blk _ w.heap.size 27 (ConfM.cells ⟨y.priv, y.port, ps2⟩ (.slice (some ⟨g5, 0, none⟩) m d5)) from HK1d.out)
        have HK2 := HK2d
        have HBL := HBd
        clear HK1d HK2d HBd
        obtain ⟨cc, hcc⟩ : ∃ z, ((ConfM.mk y.priv y.port ps2).cells (.slice (some ⟨g5, 0, none⟩) m d5)).toArray = z := ⟨_, rfl⟩
        have HCC := Lib.hid hcc
        clear hcc
        have HONE := Lib.hid (show ∀ u ∈ (ConfM.mk y.priv y.port ps2).cells (.slice (some ⟨g5, 0, none⟩) m d5), u.oneCell' = true from by
          obtain ⟨A9, d9, e9, _⟩ := HRO.out.rd
          rw [e9]
          exact conf_one _ _ _ _)
        go_wp2_with (first | ((with_reducible refine at_op (.load 27 (.tmp 4)) rfl ?_); refine wpList_load_obj rfl 27 (.tmp 4) rfl w.heap.size 0 rfl _ HK1.out.all _ Tryz.underlying27 rfl (conf_cellsOf (ConfM.mk y.priv y.port ps2) HOK.out _) ?_; rw [HCC.out]) | ((with_reducible refine at_op (.store 27 (.tmp 8) (.tmp 104)) rfl ?_); refine wpList_store_obj rfl 27 (.tmp 8) (.tmp 104) rfl (w.heap.size + 1) 0 ((ConfM.mk y.priv y.port ps2).cells (.slice (some ⟨g5, 0, none⟩) m d5)) (by rfl) (by show Value.agg cc = _; rw [HCC.out]) 27 zc.toList HK2.out (conf_cellsOf (ConfM.mk y.priv y.port ps2) HOK.out _) (by rw [ConfM.cells_length HOK.out, HZC.out]; omega) HONE.out ?_; intro w9 hb9 hg9))
        rw [setL_all zc.toList _ (by rw [ConfM.cells_length HOK.out, HZC.out])] at hb9
        have hro9 := HRO.out.other hg9 (by simp) (by have := HG.out; omega)
        obtain ⟨A9, d9, e9, hd9, hp9⟩ := hro9.rd
        exact bodyPost_ret (results_obj rfl _ _ (w.heap.size + 1) 27 ((ConfM.mk y.priv y.port ps2).cells (.slice (some ⟨g5, 0, none⟩) m d5)) _ rfl hb9 Tryz.underlying27 rfl (conf_cellsOf (ConfM.mk y.priv y.port ps2) HOK.out _)) rfl ⟨(ConfM.mk y.priv y.port ps2), (.slice (some ⟨g5, 0, none⟩) m d5), rfl, HOK.out, HLN.out.1, HLN.out.2, A9, d9, e9, hd9, hp9, HBL.out.grown hg9 (by have := HBL.out.size; omega) (by intro k hk; injection hk with hk; omega)⟩
      · have fp := HAT.out 82 _ (peer_ep HP.out.2.2 _)
        have zo := HFZ.out (qi * 85 + 82)
        go_upto_region 22 with fail
        have hra := HRA.out.cell (p' := { p with ep := q }) (x' := xv) HP.out.1 HP.out.2.1 82 (.int .i64 q) (by omega) (peer_set_ep HP.out.2.2 _ _) (⟨HP.out.2.2.1, HP.out.2.2.2.1, HP.out.2.2.2.2.1, HQ.out, HP.out.2.2.2.2.2.2⟩) (HPF.out)
        have hgc := grown_cell wd g5 (qi * 85 + 82) (.int .i64 q)
        replace HK2d := Lib.hid (show Blk (wd.setCell ⟨g5, qi * 85 + 82, none⟩ (.int .i64 q)) (w.heap.size + 1) 27 zc.toList from by unfold Blk; rw [hgc.block _ HK2d.out.lt (by simp; have := HRA.out.low; have := HG.out; omega)]; exact HK2d.out)
        replace HK1d := Lib.hid (show Blk (wd.setCell ⟨g5, qi * 85 + 82, none⟩ (.int .i64 q)) w.heap.size 27 (y.cells (.slice (some ⟨g5, 0, none⟩) m d5)) from by unfold Blk; rw [hgc.block _ HK1d.out.lt (by simp; have := HRA.out.low; have := HG.out; omega)]; exact HK1d.out)
        replace HBd := Lib.hid (HBd.out.grown hgc (by have := HBd.out.size; omega) (by intro k hk; injection hk with hk; have := HRA.out.low; have := HG.out; omega))
        have hl2 : (y.peers.set qi { p with ep := q }).length = m := by rw [List.length_set]; exact hm
        have HRO := Lib.hid (show RowOk b1 [w.heap.size, w.heap.size + 1] _ (.slice (some ⟨g5, 0, none⟩) m d5) (y.peers.set qi { p with ep := q }) from .inr ⟨g5, d5, rest, _, by rw [hl2], hra⟩)
        have HLN2 := Lib.hid (show (y.peers.set qi { p with ep := q }).length ≤ 20 ∧ ∀ p' ∈ y.peers.set qi { p with ep := q }, p'.al.length ≤ 20 from ⟨by have := HML.out.2; omega, fun p2 hp2 => by
          rcases List.mem_or_eq_of_mem_set hp2 with h | rfl
          · exact HLN.out.2 _ h
          · exact HLN.out.2 p (List.mem_of_getElem? HP.out.1)⟩)
        have hok2 : (ConfM.mk y.priv y.port (y.peers.set qi { p with ep := q })).ok := ⟨HOK.out.1, HOK.out.2.1, hra.ok⟩
        generalize y.peers.set qi { p with ep := q } = ps2 at HRO HLN2 hok2 hl2
        replace HOK := Lib.hid hok2
        replace HLN := Lib.hid (show (ConfM.mk y.priv y.port ps2).peers.length ≤ 20 ∧ ∀ p' ∈ (ConfM.mk y.priv y.port ps2).peers, p'.al.length ≤ 20 from HLN2.out)
        clear HLN2 hok2 hra
        generalize (wd.setCell ⟨g5, qi * 85 + 82, none⟩ (.int .i64 q)) = w4 at HK1d HK2d HBd HRO ⊢
        clear hgc HAT HFZ HRA HPF HP
        have HK1 := Lib.hid (show Blk _ w.heap.size 27 (ConfM.cells ⟨y.priv, y.port, ps2⟩ (.slice (some ⟨g5, 0, none⟩) m d5)) from HK1d.out)
        have HK2 := HK2d
        have HBL := HBd
        clear HK1d HK2d HBd
        obtain ⟨cc, hcc⟩ : ∃ z, ((ConfM.mk y.priv y.port ps2).cells (.slice (some ⟨g5, 0, none⟩) m d5)).toArray = z := ⟨_, rfl⟩
        have HCC := Lib.hid hcc
        clear hcc
        have HONE := Lib.hid (show ∀ u ∈ (ConfM.mk y.priv y.port ps2).cells (.slice (some ⟨g5, 0, none⟩) m d5), u.oneCell' = true from by
          obtain ⟨A9, d9, e9, _⟩ := HRO.out.rd
          rw [e9]
          exact conf_one _ _ _ _)
        go_wp2_with (first | ((with_reducible refine at_op (.load 27 (.tmp 4)) rfl ?_); refine wpList_load_obj rfl 27 (.tmp 4) rfl w.heap.size 0 rfl _ HK1.out.all _ Tryz.underlying27 rfl (conf_cellsOf (ConfM.mk y.priv y.port ps2) HOK.out _) ?_; rw [HCC.out]) | ((with_reducible refine at_op (.store 27 (.tmp 8) (.tmp 104)) rfl ?_); refine wpList_store_obj rfl 27 (.tmp 8) (.tmp 104) rfl (w.heap.size + 1) 0 ((ConfM.mk y.priv y.port ps2).cells (.slice (some ⟨g5, 0, none⟩) m d5)) (by rfl) (by show Value.agg cc = _; rw [HCC.out]) 27 zc.toList HK2.out (conf_cellsOf (ConfM.mk y.priv y.port ps2) HOK.out _) (by rw [ConfM.cells_length HOK.out, HZC.out]; omega) HONE.out ?_; intro w9 hb9 hg9))
        rw [setL_all zc.toList _ (by rw [ConfM.cells_length HOK.out, HZC.out])] at hb9
        have hro9 := HRO.out.other hg9 (by simp) (by have := HG.out; omega)
        obtain ⟨A9, d9, e9, hd9, hp9⟩ := hro9.rd
        exact bodyPost_ret (results_obj rfl _ _ (w.heap.size + 1) 27 ((ConfM.mk y.priv y.port ps2).cells (.slice (some ⟨g5, 0, none⟩) m d5)) _ rfl hb9 Tryz.underlying27 rfl (conf_cellsOf (ConfM.mk y.priv y.port ps2) HOK.out _)) rfl ⟨(ConfM.mk y.priv y.port ps2), (.slice (some ⟨g5, 0, none⟩) m d5), rfl, HOK.out, HLN.out.1, HLN.out.2, A9, d9, e9, hd9, hp9, HBL.out.grown hg9 (by have := HBL.out.size; omega) (by intro k hk; injection hk with hk; omega)⟩
      · have fp := HAT.out 83 _ (peer_at HP.out.2.2 _).2.1
        have zo := HFZ.out (qi * 85 + 83)
        go_upto_region 22 with fail
        have hra := HRA.out.cell (p' := { p with keep := q }) (x' := xv) HP.out.1 HP.out.2.1 83 (.int .i64 q) (by omega) (peer_set_keep HP.out.2.2 _ _) (HP.out.2.2.setKeep HQ.out) (HPF.out)
        have hgc := grown_cell wd g5 (qi * 85 + 83) (.int .i64 q)
        replace HK2d := Lib.hid (show Blk (wd.setCell ⟨g5, qi * 85 + 83, none⟩ (.int .i64 q)) (w.heap.size + 1) 27 zc.toList from by unfold Blk; rw [hgc.block _ HK2d.out.lt (by simp; have := HRA.out.low; have := HG.out; omega)]; exact HK2d.out)
        replace HK1d := Lib.hid (show Blk (wd.setCell ⟨g5, qi * 85 + 83, none⟩ (.int .i64 q)) w.heap.size 27 (y.cells (.slice (some ⟨g5, 0, none⟩) m d5)) from by unfold Blk; rw [hgc.block _ HK1d.out.lt (by simp; have := HRA.out.low; have := HG.out; omega)]; exact HK1d.out)
        replace HBd := Lib.hid (HBd.out.grown hgc (by have := HBd.out.size; omega) (by intro k hk; injection hk with hk; have := HRA.out.low; have := HG.out; omega))
        have hl2 : (y.peers.set qi { p with keep := q }).length = m := by rw [List.length_set]; exact hm
        have HRO := Lib.hid (show RowOk b1 [w.heap.size, w.heap.size + 1] _ (.slice (some ⟨g5, 0, none⟩) m d5) (y.peers.set qi { p with keep := q }) from .inr ⟨g5, d5, rest, _, by rw [hl2], hra⟩)
        have HLN2 := Lib.hid (show (y.peers.set qi { p with keep := q }).length ≤ 20 ∧ ∀ p' ∈ y.peers.set qi { p with keep := q }, p'.al.length ≤ 20 from ⟨by have := HML.out.2; omega, fun p2 hp2 => by
          rcases List.mem_or_eq_of_mem_set hp2 with h | rfl
          · exact HLN.out.2 _ h
          · exact HLN.out.2 p (List.mem_of_getElem? HP.out.1)⟩)
        have hok2 : (ConfM.mk y.priv y.port (y.peers.set qi { p with keep := q })).ok := ⟨HOK.out.1, HOK.out.2.1, hra.ok⟩
        generalize y.peers.set qi { p with keep := q } = ps2 at HRO HLN2 hok2 hl2
        replace HOK := Lib.hid hok2
        replace HLN := Lib.hid (show (ConfM.mk y.priv y.port ps2).peers.length ≤ 20 ∧ ∀ p' ∈ (ConfM.mk y.priv y.port ps2).peers, p'.al.length ≤ 20 from HLN2.out)
        clear HLN2 hok2 hra
        generalize (wd.setCell ⟨g5, qi * 85 + 83, none⟩ (.int .i64 q)) = w4 at HK1d HK2d HBd HRO ⊢
        clear hgc HAT HFZ HRA HPF HP
        have HK1 := Lib.hid (show Blk _ w.heap.size 27 (ConfM.cells ⟨y.priv, y.port, ps2⟩ (.slice (some ⟨g5, 0, none⟩) m d5)) from HK1d.out)
        have HK2 := HK2d
        have HBL := HBd
        clear HK1d HK2d HBd
        obtain ⟨cc, hcc⟩ : ∃ z, ((ConfM.mk y.priv y.port ps2).cells (.slice (some ⟨g5, 0, none⟩) m d5)).toArray = z := ⟨_, rfl⟩
        have HCC := Lib.hid hcc
        clear hcc
        have HONE := Lib.hid (show ∀ u ∈ (ConfM.mk y.priv y.port ps2).cells (.slice (some ⟨g5, 0, none⟩) m d5), u.oneCell' = true from by
          obtain ⟨A9, d9, e9, _⟩ := HRO.out.rd
          rw [e9]
          exact conf_one _ _ _ _)
        go_wp2_with (first | ((with_reducible refine at_op (.load 27 (.tmp 4)) rfl ?_); refine wpList_load_obj rfl 27 (.tmp 4) rfl w.heap.size 0 rfl _ HK1.out.all _ Tryz.underlying27 rfl (conf_cellsOf (ConfM.mk y.priv y.port ps2) HOK.out _) ?_; rw [HCC.out]) | ((with_reducible refine at_op (.store 27 (.tmp 8) (.tmp 104)) rfl ?_); refine wpList_store_obj rfl 27 (.tmp 8) (.tmp 104) rfl (w.heap.size + 1) 0 ((ConfM.mk y.priv y.port ps2).cells (.slice (some ⟨g5, 0, none⟩) m d5)) (by rfl) (by show Value.agg cc = _; rw [HCC.out]) 27 zc.toList HK2.out (conf_cellsOf (ConfM.mk y.priv y.port ps2) HOK.out _) (by rw [ConfM.cells_length HOK.out, HZC.out]; omega) HONE.out ?_; intro w9 hb9 hg9))
        rw [setL_all zc.toList _ (by rw [ConfM.cells_length HOK.out, HZC.out])] at hb9
        have hro9 := HRO.out.other hg9 (by simp) (by have := HG.out; omega)
        obtain ⟨A9, d9, e9, hd9, hp9⟩ := hro9.rd
        exact bodyPost_ret (results_obj rfl _ _ (w.heap.size + 1) 27 ((ConfM.mk y.priv y.port ps2).cells (.slice (some ⟨g5, 0, none⟩) m d5)) _ rfl hb9 Tryz.underlying27 rfl (conf_cellsOf (ConfM.mk y.priv y.port ps2) HOK.out _)) rfl ⟨(ConfM.mk y.priv y.port ps2), (.slice (some ⟨g5, 0, none⟩) m d5), rfl, HOK.out, HLN.out.1, HLN.out.2, A9, d9, e9, hd9, hp9, HBL.out.grown hg9 (by have := HBL.out.size; omega) (by intro k hk; injection hk with hk; omega)⟩
      · obtain ⟨pi, hpi, hpz, hps, hpb⟩ := prefInfo
        have HPI := Lib.hid (And.intro hpi (And.intro hpz (And.intro hps hpb)))
        obtain ⟨A7, c7, rfl, hc7, hm7, hpf7, hne7⟩ := HPF.out
        have HPF7 := Lib.hid hpf7
        have HAL := Lib.hid (HL10.out.2 p (List.mem_of_getElem? HP.out.1))
        obtain ⟨z, hz⟩ : ∃ z, bits BinOp.and IntKind.i64 q 63 = z := ⟨_, rfl⟩
        have HZI := Lib.hid (show inI64 z from by rw [← hz]; exact i64_and63 q)
        obtain ⟨bc, hbc⟩ : ∃ b, (prefC addr0 z).toArray = b := ⟨_, rfl⟩
        have HBT := Lib.hid (show Tryz.prog.built 60 [(1, .int .i64 z)] = some bc from by rw [← hbc]; exact pref_built1 z)
        have HBC := Lib.hid hbc
        have fp := HAT.out 84 _ (peer_at HP.out.2.2 _).2.2
        clear hpi hpz hps hpb hc7 hm7 hpf7 hne7 hbc
        go_upto_region 22 with (first | (at_builtin; refine wpList_append_rows _ rfl (.const (.slice none 0 0)) (.tmp 80) 49 rfl wd.heap.size 60 pi _ 18 32 Tryz.underlying49 HPI.out.1 HPI.out.2.1 HPI.out.2.2.1 HPI.out.2.2.2 (by rfl) (by decide) (.slice none 0 0) 0 [] rfl (World.ownsRow_nil _ _ _ _) wd.heap.size A7 p.al.length c7 (pfsV p.al) rfl HPF7.out.1 (pfs_one p.al) (by have := HAL.out; unfold maxLen; omega) (by have := HAL.out; omega) (Nat.le_refl _) ?_; intro v1 w3 ho1 hg1 _; rw [Nat.zero_add, List.nil_append] at ho1) | (refine wpList_build_as rfl 60 [(1, .tmp 83)] rfl bc ?_ ?_; (first | (simp only [hz]; exact HBT.out) | exact HBT.out)) | (refine wpList_buildOne rfl 49 60 (.tmp 84) rfl bc rfl 18 Tryz.underlying49 pi HPI.out.1 HPI.out.2.2.1 _ HPI.out.2.1 (by decide) (by decide) (by rw [← HBC.out]; rfl) ?_) | (at_builtin; refine wpList_append_rows _ rfl (.tmp 81) (.tmp 85) 49 rfl wd.heap.size 60 pi _ 18 32 Tryz.underlying49 HPI.out.1 HPI.out.2.1 HPI.out.2.2.1 HPI.out.2.2.2 (by rfl) (by decide) v1 p.al.length (pfsV p.al).flatten rfl (own_below ho1 ((Below.refl w3.heap.size w3).alloc (Nat.le_refl _) (.cells bc 60))) (w3.alloc (.cells bc 60)).heap.size (some ⟨w3.heap.size, 0, none⟩) 1 1 [prefC addr0 z] rfl (by rw [← HBC.out]; exact blk_row (t := 60) (rest := []) (by simpa using Blk.new w3 60 (prefC addr0 z)) (by intro o ho; rw [List.mem_singleton] at ho; rw [ho, prefC_length addr0 addr0_ok]) rfl) (pfs_one [(addr0, z)]) (by have := HAL.out; unfold maxLen; omega) (by have := HAL.out; omega) (by have := hg1.size; simp; omega) ?_; intro v2 w5 ho2 hg2 _; have hB5 : Below wd.heap.size wd w5 := ((((Below.refl wd.heap.size wd).grown hg1 (Nat.le_refl _) (by simp [Value.ownBlock])).alloc hg1.size (.cells bc 60)).grown hg2 (by have := hg1.size; simp; omega) (fun k e => (own_lt ho1 e).1)); have HRA5 := Lib.hid (HRA.out.below hB5); have fo := HRA5.out.at HP.out.1 HP.out.2.1 84 _ (peer_at HP.out.2.2 _).2.2; have zo := HRA5.out.blk.frozen (qi * 85 + 84); obtain ⟨A2, c2, rfl, hc2, hm2, _⟩ := own_sliceK ho2))
        have hal2 : (p.al ++ [(addr0, z)]).length = (p.al.length + 1) := by simp
        have hoks : ∀ r ∈ (p.al ++ [(addr0, z)]), okP r := fun r hr => by
            rcases List.mem_append.1 hr with hr | hr
            · exact HP.out.2.2.2.2.2.2.2 r hr
            · rw [List.mem_singleton.1 hr]; exact ⟨addr0_ok, HZI.out⟩
        have hge : ∀ k, (Value.slice A2 (p.al.length + 1) c2).ownBlock = some k → wd.heap.size ≤ k := fun k hk => (own_lt ho2 hk).1
        have hpf2 : PfO w5 (g5 :: [w.heap.size, w.heap.size + 1]) { p with al := (p.al ++ [(addr0, z)]) } (.slice A2 (p.al.length + 1) c2) := ⟨A2, c2, by simp only [hal2], by simp only [hal2]; exact hc2, hm2, by simp only [hal2]; exact PfRd.of_own hal2 hoks (by rw [pfsV_app1]; exact ho2), fun _ b off hA hb => by
          subst hA
          have h1 := hge b rfl
          have h2 := HRA.out.blk.lt
          have h3 := HRA.out.low
          have h4 := HG.out
          simp at hb
          omega⟩
        have hra := HRA5.out.cell (p' := { p with al := (p.al ++ [(addr0, z)]) }) (x' := .slice A2 (p.al.length + 1) c2) HP.out.1 HP.out.2.1 84 (.slice A2 (p.al.length + 1) c2) (by omega) (peer_set_al HP.out.2.2 _ _) ⟨HP.out.2.2.1, HP.out.2.2.2.1, HP.out.2.2.2.2.1, HP.out.2.2.2.2.2.1, HP.out.2.2.2.2.2.2.1, hoks⟩ hpf2
        have hgc := grown_cell w5 g5 (qi * 85 + 84) (.slice A2 (p.al.length + 1) c2)
        replace HK1d := Lib.hid (HK1d.out.below hB5 HK1d.out.lt)
        replace HK2d := Lib.hid (HK2d.out.below hB5 HK2d.out.lt)
        replace HBd := Lib.hid (HBd.out.trans (hB5.mono HBd.out.size))
        replace HK2d := Lib.hid (show Blk (w5.setCell ⟨g5, qi * 85 + 84, none⟩ (.slice A2 (p.al.length + 1) c2)) (w.heap.size + 1) 27 zc.toList from by unfold Blk; rw [hgc.block _ HK2d.out.lt (by simp; have := HRA.out.low; have := HG.out; omega)]; exact HK2d.out)
        replace HK1d := Lib.hid (show Blk (w5.setCell ⟨g5, qi * 85 + 84, none⟩ (.slice A2 (p.al.length + 1) c2)) w.heap.size 27 (y.cells (.slice (some ⟨g5, 0, none⟩) m d5)) from by unfold Blk; rw [hgc.block _ HK1d.out.lt (by simp; have := HRA.out.low; have := HG.out; omega)]; exact HK1d.out)
        replace HBd := Lib.hid (HBd.out.grown hgc (by have := HBd.out.size; omega) (by intro k hk; injection hk with hk; have := HRA.out.low; have := HG.out; omega))
        have hl2 : (y.peers.set qi { p with al := (p.al ++ [(addr0, z)]) }).length = m := by rw [List.length_set]; exact hm
        have HRO := Lib.hid (show RowOk b1 [w.heap.size, w.heap.size + 1] _ (.slice (some ⟨g5, 0, none⟩) m d5) (y.peers.set qi { p with al := (p.al ++ [(addr0, z)]) }) from .inr ⟨g5, d5, rest, _, by rw [hl2], hra⟩)
        have HLN2 := Lib.hid (show (y.peers.set qi { p with al := (p.al ++ [(addr0, z)]) }).length ≤ 20 ∧ ∀ p' ∈ y.peers.set qi { p with al := (p.al ++ [(addr0, z)]) }, p'.al.length ≤ 20 from ⟨by have := HML.out.2; omega, fun p2 hp2 => by
          rcases List.mem_or_eq_of_mem_set hp2 with h | rfl
          · exact HLN.out.2 _ h
          · simp only [hal2]; have := HL10.out.2 p (List.mem_of_getElem? HP.out.1); omega⟩)
        have hok2 : (ConfM.mk y.priv y.port (y.peers.set qi { p with al := (p.al ++ [(addr0, z)]) })).ok := ⟨HOK.out.1, HOK.out.2.1, hra.ok⟩
        generalize y.peers.set qi { p with al := (p.al ++ [(addr0, z)]) } = ps2 at HRO HLN2 hok2 hl2
        replace HOK := Lib.hid hok2
        replace HLN := Lib.hid (show (ConfM.mk y.priv y.port ps2).peers.length ≤ 20 ∧ ∀ p' ∈ (ConfM.mk y.priv y.port ps2).peers, p'.al.length ≤ 20 from HLN2.out)
        clear HLN2 hok2 hra
        generalize (w5.setCell ⟨g5, qi * 85 + 84, none⟩ (.slice A2 (p.al.length + 1) c2)) = w4 at HK1d HK2d HBd HRO ⊢
        clear hgc HAT HFZ HRA HPF HP hpf2 hge hoks HRA5 fo zo fp
        have HK1 := Lib.hid (show Blk _ w.heap.size 27 (ConfM.cells ⟨y.priv, y.port, ps2⟩ (.slice (some ⟨g5, 0, none⟩) m d5)) from HK1d.out)
        have HK2 := HK2d
        have HBL := HBd
        clear HK1d HK2d HBd
        obtain ⟨cc, hcc⟩ : ∃ z, ((ConfM.mk y.priv y.port ps2).cells (.slice (some ⟨g5, 0, none⟩) m d5)).toArray = z := ⟨_, rfl⟩
        have HCC := Lib.hid hcc
        clear hcc
        have HONE := Lib.hid (show ∀ u ∈ (ConfM.mk y.priv y.port ps2).cells (.slice (some ⟨g5, 0, none⟩) m d5), u.oneCell' = true from by
          obtain ⟨A9, d9, e9, _⟩ := HRO.out.rd
          rw [e9]
          exact conf_one _ _ _ _)
        go_wp2_with (first | ((with_reducible refine at_op (.load 27 (.tmp 4)) rfl ?_); refine wpList_load_obj rfl 27 (.tmp 4) rfl w.heap.size 0 rfl _ HK1.out.all _ Tryz.underlying27 rfl (conf_cellsOf (ConfM.mk y.priv y.port ps2) HOK.out _) ?_; rw [HCC.out]) | ((with_reducible refine at_op (.store 27 (.tmp 8) (.tmp 104)) rfl ?_); refine wpList_store_obj rfl 27 (.tmp 8) (.tmp 104) rfl (w.heap.size + 1) 0 ((ConfM.mk y.priv y.port ps2).cells (.slice (some ⟨g5, 0, none⟩) m d5)) (by rfl) (by show Value.agg cc = _; rw [HCC.out]) 27 zc.toList HK2.out (conf_cellsOf (ConfM.mk y.priv y.port ps2) HOK.out _) (by rw [ConfM.cells_length HOK.out, HZC.out]; omega) HONE.out ?_; intro w9 hb9 hg9))
        rw [setL_all zc.toList _ (by rw [ConfM.cells_length HOK.out, HZC.out])] at hb9
        have hro9 := HRO.out.other hg9 (by simp) (by have := HG.out; omega)
        obtain ⟨A9, d9, e9, hd9, hp9⟩ := hro9.rd
        exact bodyPost_ret (results_obj rfl _ _ (w.heap.size + 1) 27 ((ConfM.mk y.priv y.port ps2).cells (.slice (some ⟨g5, 0, none⟩) m d5)) _ rfl hb9 Tryz.underlying27 rfl (conf_cellsOf (ConfM.mk y.priv y.port ps2) HOK.out _)) rfl ⟨(ConfM.mk y.priv y.port ps2), (.slice (some ⟨g5, 0, none⟩) m d5), rfl, HOK.out, HLN.out.1, HLN.out.2, A9, d9, e9, hd9, hp9, HBL.out.grown hg9 (by have := HBL.out.size; omega) (by intro k hk; injection hk with hk; omega)⟩
      · obtain ⟨pi, hpi, hpz, hps, hpb⟩ := prefInfo
        have HPI := Lib.hid (And.intro hpi (And.intro hpz (And.intro hps hpb)))
        obtain ⟨A7, c7, rfl, hc7, hm7, hpf7, hne7⟩ := HPF.out
        have HPF7 := Lib.hid hpf7
        have HAL := Lib.hid (HL10.out.2 p (List.mem_of_getElem? HP.out.1))
        clear hpi hpz hps hpb hc7 hm7 hpf7 hne7
        go_upto_region 21 with fail
        refine wp_region_held_drew (S := fun _ => True) (by kernel_rfl) (trivial) (fun hHeld => ?_)
        have HK1n := Lib.hid (show Blk wd.drew w.heap.size 27 (y.cells (.slice (some ⟨g5, 0, none⟩) m d5)) from HK1d.out)
        have HK2n := Lib.hid (show Blk wd.drew (w.heap.size + 1) 27 zc.toList from HK2d.out)
        have HRAn := Lib.hid (HRA.out.below ((Below.refl _ _).drew))
        have HBn := Lib.hid HBd.out.drew
        have HPn := Lib.hid (show PfRd wd.drew wd.drew.heap.size A7 p.al.length p.al from HPF7.out.below ((Below.refl _ _).drew))
        clear HAT HFZ HRA HPF7 HK1d HK2d HBd
        generalize wd.drew = wd at HK1n HK2n HRAn HBn HPn hHeld ⊢
        have HK1d := HK1n
        have HK2d := HK2n
        have HRA := HRAn
        have HBd := HBn
        have HPF7 := HPn
        clear HK1n HK2n HRAn HBn HPn
        have HFZ := trivial
        have HAT := Lib.hid (HRA.out.at HP.out.1 HP.out.2.1)
        refine take_first (v := ?_) 0 rfl (by kernel_rfl) (by kernel_rfl) (by kernel_rfl) (fun _ _ _ h => h) (Or.inl ⟨by rfl, ?_⟩) trivial ?_
        rotate_left
        · (intro w hSw; (try dsimp only at hSw); go_simp; try with_reducible rfl)
        (try simp only [Act.put, List.setIfInBounds_toArray, List.set_cons_zero, List.set_cons_succ])
        refine take_first (v := ?_) 1 rfl (by kernel_rfl) (by kernel_rfl) (by kernel_rfl) (fun _ _ _ h => h) (Or.inl ⟨by rfl, ?_⟩) trivial ?_
        rotate_left
        · (intro w hSw; (try dsimp only at hSw); go_simp; try with_reducible rfl)
        (try simp only [Act.put, List.setIfInBounds_toArray, List.set_cons_zero, List.set_cons_succ])
        refine take_first (v := ?_) 2 rfl (by kernel_rfl) (by kernel_rfl) (by kernel_rfl) (fun _ _ _ h => h) (Or.inl ⟨by rfl, ?_⟩) trivial ?_
        rotate_left
        · (intro w hSw; (try dsimp only at hSw); go_simp; try with_reducible rfl)
        (try simp only [Act.put, List.setIfInBounds_toArray, List.set_cons_zero, List.set_cons_succ])
        refine take_first (v := ?_) 3 rfl (by kernel_rfl) (by kernel_rfl) (by kernel_rfl) (fun _ _ _ h => h) (Or.inl ⟨by rfl, ?_⟩) trivial ?_
        rotate_left
        · (intro w hSw; (try dsimp only at hSw); go_simp; try with_reducible rfl)
        (try simp only [Act.put, List.setIfInBounds_toArray, List.set_cons_zero, List.set_cons_succ])
        refine take_first (v := ?_) 6 rfl (by kernel_rfl) (by kernel_rfl) (by kernel_rfl) (fun _ _ _ h => h) (Or.inl ⟨by rfl, ?_⟩) trivial ?_
        rotate_left
        · (intro w hSw; (try dsimp only at hSw); go_simp; try with_reducible rfl)
        (try simp only [Act.put, List.setIfInBounds_toArray, List.set_cons_zero, List.set_cons_succ])
        refine take_first (v := ?_) 7 rfl (by kernel_rfl) (by kernel_rfl) (by kernel_rfl) (fun _ _ _ h => h) (Or.inl ⟨by rfl, ?_⟩) trivial ?_
        rotate_left
        · (intro w hSw; (try dsimp only at hSw); go_simp; try with_reducible rfl)
        (try simp only [Act.put, List.setIfInBounds_toArray, List.set_cons_zero, List.set_cons_succ])
        refine take_first (v := ?_) 8 rfl (by kernel_rfl) (by kernel_rfl) (by kernel_rfl) (fun _ _ _ h => h) (Or.inl ⟨by rfl, ?_⟩) trivial ?_
        rotate_left
        · (intro w hSw; (try dsimp only at hSw); go_simp; try with_reducible rfl)
        (try simp only [Act.put, List.setIfInBounds_toArray, List.set_cons_zero, List.set_cons_succ])
        refine take_load (v := ?_) [9] 4 rfl (by kernel_rfl) (by kernel_rfl) (by kernel_rfl) (by kernel_rfl) (by kernel_rfl) (fun _ _ _ h => h) (Or.inl ⟨by rfl, ?_⟩) trivial ?_
        rotate_left
        · (intro w hSw; subst hSw; have fo := HRA.out.at HP.out.1 HP.out.2.1 84 _ (peer_at HP.out.2.2 _).2.2; go_simp; try with_reducible rfl)
        (try simp only [Act.put, List.setIfInBounds_toArray, List.set_cons_zero, List.set_cons_succ])
        refine load_ro (v := .slice A7 p.al.length c7) 9 5 rfl rfl (by kernel_rfl) (.inl ⟨by rfl, fun W hW => by subst hW; have fo := HRA.out.at HP.out.1 HP.out.2.1 84 _ (peer_at HP.out.2.2 _).2.2; go_simp; try with_reducible rfl⟩) trivial ?_ (fun K hK => ?_)
        · (try simp only [Act.put, List.setIfInBounds_toArray, List.set_cons_zero, List.set_cons_succ])
          refine step_one 5 rfl (by kernel_rfl) (fun K hK => ?_)
          refine step_append_rows _ rfl (.const (.slice none 0 0)) (.tmp 95) 49 rfl wd.heap.size 60 pi _ 18 32 Tryz.underlying49 HPI.out.1 HPI.out.2.1 HPI.out.2.2.1 HPI.out.2.2.2 (by rfl) (by decide) (.slice none 0 0) 0 [] rfl (World.ownsRow_nil _ _ _ _) wd.heap.size A7 p.al.length c7 (pfsV p.al) rfl HPF7.out.1 (pfs_one p.al) (by have := HAL.out; unfold maxLen; omega) (by have := HAL.out; omega) (Nat.le_refl _) ?_
          intro v1 w3 ho1 hg1 _
          rw [Nat.zero_add, List.nil_append] at ho1
          have hB3 : Below wd.heap.size wd w3 := (Below.refl wd.heap.size wd).grown hg1 (Nat.le_refl _) (by simp [Value.ownBlock])
          have HRA3 := Lib.hid (HRA.out.below hB3)
          refine hK.out _ _ trivial (fun hHeld => ?_)
          clear hK K
          (try simp only [Act.put, List.setIfInBounds_toArray, List.set_cons_zero, List.set_cons_succ])
          refine step_one 10 rfl (by kernel_rfl) (fun K hK => ?_)
          refine step_append_rows _ rfl (.tmp 96) (.tmp 100) 49 rfl wd.heap.size 60 pi _ 18 32 Tryz.underlying49 HPI.out.1 HPI.out.2.1 HPI.out.2.2.1 HPI.out.2.2.2 (by rfl) (by decide) v1 p.al.length (pfsV p.al).flatten rfl ho1 w3.heap.size A7 p.al.length c7 (pfsV p.al) rfl ((HPF7.out.1.below hB3).mono hB3.size) (pfs_one p.al) (by have := HAL.out; unfold maxLen; omega) (by have := HAL.out; omega) hB3.size ?_
          intro v2 w5 ho2 hg2 _
          have hB5 : Below wd.heap.size wd w5 := hB3.grown hg2 hB3.size (fun k e => (own_lt ho1 e).1)
          have HRA5 := Lib.hid (HRA.out.below hB5)
          have fo := HRA5.out.at HP.out.1 HP.out.2.1 84 _ (peer_at HP.out.2.2 _).2.2
          have zo := HRA5.out.blk.frozen (qi * 85 + 84)
          have fp := fo
          obtain ⟨A2, c2, rfl, hc2, hm2, _⟩ := own_sliceK ho2
          refine hK.out _ _ trivial (fun hHeld => ?_)
          clear hK K
          (try simp only [Act.put, List.setIfInBounds_toArray, List.set_cons_zero, List.set_cons_succ])
          refine take_first (v := ?_) 11 rfl (by kernel_rfl) (by kernel_rfl) (by kernel_rfl) (fun _ _ _ h => h) (Or.inl ⟨by rfl, ?_⟩) trivial ?_
          rotate_left
          · (intro w hSw; (try dsimp only at hSw); go_simp; try with_reducible rfl)
          (try simp only [Act.put, List.setIfInBounds_toArray, List.set_cons_zero, List.set_cons_succ])
          refine take_first (v := ?_) 12 rfl (by kernel_rfl) (by kernel_rfl) (by kernel_rfl) (fun _ _ _ h => h) (Or.inl ⟨by rfl, ?_⟩) trivial ?_
          rotate_left
          · (intro w hSw; (try dsimp only at hSw); go_simp; try with_reducible rfl)
          (try simp only [Act.put, List.setIfInBounds_toArray, List.set_cons_zero, List.set_cons_succ])
          refine step_one 13 rfl (by kernel_rfl) (fun K hK => ?_)
          go_simp
          refine hK.out _ _ trivial (fun hHeld => ?_)
          clear hK K
          (try simp only [Act.put])
          refine wpAnyH_done (by kernel_rfl) ?_ _
          clear hHeld
          go_upto_region 22 with fail
          have hal2 : (p.al ++ p.al).length = (p.al.length + p.al.length) := by simp
          have hoks : ∀ r ∈ (p.al ++ p.al), okP r := fun r hr => by
              rcases List.mem_append.1 hr with hr | hr
              · exact HP.out.2.2.2.2.2.2.2 r hr
              · exact HP.out.2.2.2.2.2.2.2 r hr
          have hge : ∀ k, (Value.slice A2 (p.al.length + p.al.length) c2).ownBlock = some k → wd.heap.size ≤ k := fun k hk => (own_lt ho2 hk).1
          have hpf2 : PfO w5 (g5 :: [w.heap.size, w.heap.size + 1]) { p with al := (p.al ++ p.al) } (.slice A2 (p.al.length + p.al.length) c2) := ⟨A2, c2, by simp only [hal2], by simp only [hal2]; exact hc2, hm2, by simp only [hal2]; exact PfRd.of_own hal2 hoks (by rw [show (pfsV (p.al ++ p.al)).flatten = (pfsV p.al).flatten ++ (pfsV p.al).flatten from by simp [pfsV]]; exact ho2), fun _ b off hA hb => by
            subst hA
            have h1 := hge b rfl
            have h2 := HRA.out.blk.lt
            have h3 := HRA.out.low
            have h4 := HG.out
            simp at hb
            omega⟩
          have hra := HRA5.out.cell (p' := { p with al := (p.al ++ p.al) }) (x' := .slice A2 (p.al.length + p.al.length) c2) HP.out.1 HP.out.2.1 84 (.slice A2 (p.al.length + p.al.length) c2) (by omega) (peer_set_al HP.out.2.2 _ _) ⟨HP.out.2.2.1, HP.out.2.2.2.1, HP.out.2.2.2.2.1, HP.out.2.2.2.2.2.1, HP.out.2.2.2.2.2.2.1, hoks⟩ hpf2
          have hgc := grown_cell w5 g5 (qi * 85 + 84) (.slice A2 (p.al.length + p.al.length) c2)
          replace HK1d := Lib.hid (HK1d.out.below hB5 HK1d.out.lt)
          replace HK2d := Lib.hid (HK2d.out.below hB5 HK2d.out.lt)
          replace HBd := Lib.hid (HBd.out.trans (hB5.mono HBd.out.size))
          replace HK2d := Lib.hid (show Blk (w5.setCell ⟨g5, qi * 85 + 84, none⟩ (.slice A2 (p.al.length + p.al.length) c2)) (w.heap.size + 1) 27 zc.toList from by unfold Blk; rw [hgc.block _ HK2d.out.lt (by simp; have := HRA.out.low; have := HG.out; omega)]; exact HK2d.out)
          replace HK1d := Lib.hid (show Blk (w5.setCell ⟨g5, qi * 85 + 84, none⟩ (.slice A2 (p.al.length + p.al.length) c2)) w.heap.size 27 (y.cells (.slice (some ⟨g5, 0, none⟩) m d5)) from by unfold Blk; rw [hgc.block _ HK1d.out.lt (by simp; have := HRA.out.low; have := HG.out; omega)]; exact HK1d.out)
          replace HBd := Lib.hid (HBd.out.grown hgc (by have := HBd.out.size; omega) (by intro k hk; injection hk with hk; have := HRA.out.low; have := HG.out; omega))
          have hl2 : (y.peers.set qi { p with al := (p.al ++ p.al) }).length = m := by rw [List.length_set]; exact hm
          have HRO := Lib.hid (show RowOk b1 [w.heap.size, w.heap.size + 1] _ (.slice (some ⟨g5, 0, none⟩) m d5) (y.peers.set qi { p with al := (p.al ++ p.al) }) from .inr ⟨g5, d5, rest, _, by rw [hl2], hra⟩)
          have HLN2 := Lib.hid (show (y.peers.set qi { p with al := (p.al ++ p.al) }).length ≤ 20 ∧ ∀ p' ∈ y.peers.set qi { p with al := (p.al ++ p.al) }, p'.al.length ≤ 20 from ⟨by have := HML.out.2; omega, fun p2 hp2 => by
            rcases List.mem_or_eq_of_mem_set hp2 with h | rfl
            · exact HLN.out.2 _ h
            · simp only [hal2]; have := HL10.out.2 p (List.mem_of_getElem? HP.out.1); omega⟩)
          have hok2 : (ConfM.mk y.priv y.port (y.peers.set qi { p with al := (p.al ++ p.al) })).ok := ⟨HOK.out.1, HOK.out.2.1, hra.ok⟩
          generalize y.peers.set qi { p with al := (p.al ++ p.al) } = ps2 at HRO HLN2 hok2 hl2
          replace HOK := Lib.hid hok2
          replace HLN := Lib.hid (show (ConfM.mk y.priv y.port ps2).peers.length ≤ 20 ∧ ∀ p' ∈ (ConfM.mk y.priv y.port ps2).peers, p'.al.length ≤ 20 from HLN2.out)
          clear HLN2 hok2 hra
          generalize (w5.setCell ⟨g5, qi * 85 + 84, none⟩ (.slice A2 (p.al.length + p.al.length) c2)) = w4 at HK1d HK2d HBd HRO ⊢
          clear hgc HAT HFZ HRA HPF HP hpf2 hge hoks HRA5 fo zo fp
          have HK1 := Lib.hid (show Blk _ w.heap.size 27 (ConfM.cells ⟨y.priv, y.port, ps2⟩ (.slice (some ⟨g5, 0, none⟩) m d5)) from HK1d.out)
          have HK2 := HK2d
          have HBL := HBd
          clear HK1d HK2d HBd
          obtain ⟨cc, hcc⟩ : ∃ z, ((ConfM.mk y.priv y.port ps2).cells (.slice (some ⟨g5, 0, none⟩) m d5)).toArray = z := ⟨_, rfl⟩
          have HCC := Lib.hid hcc
          clear hcc
          have HONE := Lib.hid (show ∀ u ∈ (ConfM.mk y.priv y.port ps2).cells (.slice (some ⟨g5, 0, none⟩) m d5), u.oneCell' = true from by
            obtain ⟨A9, d9, e9, _⟩ := HRO.out.rd
            rw [e9]
            exact conf_one _ _ _ _)
          go_wp2_with (first | ((with_reducible refine at_op (.load 27 (.tmp 4)) rfl ?_); refine wpList_load_obj rfl 27 (.tmp 4) rfl w.heap.size 0 rfl _ HK1.out.all _ Tryz.underlying27 rfl (conf_cellsOf (ConfM.mk y.priv y.port ps2) HOK.out _) ?_; rw [HCC.out]) | ((with_reducible refine at_op (.store 27 (.tmp 8) (.tmp 104)) rfl ?_); refine wpList_store_obj rfl 27 (.tmp 8) (.tmp 104) rfl (w.heap.size + 1) 0 ((ConfM.mk y.priv y.port ps2).cells (.slice (some ⟨g5, 0, none⟩) m d5)) (by rfl) (by show Value.agg cc = _; rw [HCC.out]) 27 zc.toList HK2.out (conf_cellsOf (ConfM.mk y.priv y.port ps2) HOK.out _) (by rw [ConfM.cells_length HOK.out, HZC.out]; omega) HONE.out ?_; intro w9 hb9 hg9))
          rw [setL_all zc.toList _ (by rw [ConfM.cells_length HOK.out, HZC.out])] at hb9
          have hro9 := HRO.out.other hg9 (by simp) (by have := HG.out; omega)
          obtain ⟨A9, d9, e9, hd9, hp9⟩ := hro9.rd
          exact bodyPost_ret (results_obj rfl _ _ (w.heap.size + 1) 27 ((ConfM.mk y.priv y.port ps2).cells (.slice (some ⟨g5, 0, none⟩) m d5)) _ rfl hb9 Tryz.underlying27 rfl (conf_cellsOf (ConfM.mk y.priv y.port ps2) HOK.out _)) rfl ⟨(ConfM.mk y.priv y.port ps2), (.slice (some ⟨g5, 0, none⟩) m d5), rfl, HOK.out, HLN.out.1, HLN.out.2, A9, d9, e9, hd9, hp9, HBL.out.grown hg9 (by have := HBL.out.size; omega) (by intro k hk; injection hk with hk; omega)⟩
        · refine step_append_rows _ rfl (.const (.slice none 0 0)) (.tmp 95) 49 rfl wd.heap.size 60 pi _ 18 32 Tryz.underlying49 HPI.out.1 HPI.out.2.1 HPI.out.2.2.1 HPI.out.2.2.2 (by rfl) (by decide) (.slice none 0 0) 0 [] rfl (World.ownsRow_nil _ _ _ _) wd.heap.size A7 p.al.length c7 (pfsV p.al) rfl HPF7.out.1 (pfs_one p.al) (by have := HAL.out; unfold maxLen; omega) (by have := HAL.out; omega) (Nat.le_refl _) ?_
          intro v1 w3 ho1 hg1 _
          rw [Nat.zero_add, List.nil_append] at ho1
          have hB3 : Below wd.heap.size wd w3 := (Below.refl wd.heap.size wd).grown hg1 (Nat.le_refl _) (by simp [Value.ownBlock])
          have HRA3 := Lib.hid (HRA.out.below hB3)
          refine hK.out _ _ trivial (fun hHeld => ?_)
          clear hK K
          (try simp only [Act.put, List.setIfInBounds_toArray, List.set_cons_zero, List.set_cons_succ])
          refine load_one (v := .slice A7 p.al.length c7) 9 rfl (by kernel_rfl) (.inl ⟨by rfl, fun W hW => by subst hW; have fo := HRA3.out.at HP.out.1 HP.out.2.1 84 _ (peer_at HP.out.2.2 _).2.2; go_simp; try with_reducible rfl⟩) trivial ?_
          (try simp only [Act.put, List.setIfInBounds_toArray, List.set_cons_zero, List.set_cons_succ])
          refine step_one 10 rfl (by kernel_rfl) (fun K hK => ?_)
          refine step_append_rows _ rfl (.tmp 96) (.tmp 100) 49 rfl wd.heap.size 60 pi _ 18 32 Tryz.underlying49 HPI.out.1 HPI.out.2.1 HPI.out.2.2.1 HPI.out.2.2.2 (by rfl) (by decide) v1 p.al.length (pfsV p.al).flatten rfl ho1 w3.heap.size A7 p.al.length c7 (pfsV p.al) rfl ((HPF7.out.1.below hB3).mono hB3.size) (pfs_one p.al) (by have := HAL.out; unfold maxLen; omega) (by have := HAL.out; omega) hB3.size ?_
          intro v2 w5 ho2 hg2 _
          have hB5 : Below wd.heap.size wd w5 := hB3.grown hg2 hB3.size (fun k e => (own_lt ho1 e).1)
          have HRA5 := Lib.hid (HRA.out.below hB5)
          have fo := HRA5.out.at HP.out.1 HP.out.2.1 84 _ (peer_at HP.out.2.2 _).2.2
          have zo := HRA5.out.blk.frozen (qi * 85 + 84)
          have fp := fo
          obtain ⟨A2, c2, rfl, hc2, hm2, _⟩ := own_sliceK ho2
          refine hK.out _ _ trivial (fun hHeld => ?_)
          clear hK K
          (try simp only [Act.put, List.setIfInBounds_toArray, List.set_cons_zero, List.set_cons_succ])
          refine take_first (v := ?_) 11 rfl (by kernel_rfl) (by kernel_rfl) (by kernel_rfl) (fun _ _ _ h => h) (Or.inl ⟨by rfl, ?_⟩) trivial ?_
          rotate_left
          · (intro w hSw; (try dsimp only at hSw); go_simp; try with_reducible rfl)
          (try simp only [Act.put, List.setIfInBounds_toArray, List.set_cons_zero, List.set_cons_succ])
          refine take_first (v := ?_) 12 rfl (by kernel_rfl) (by kernel_rfl) (by kernel_rfl) (fun _ _ _ h => h) (Or.inl ⟨by rfl, ?_⟩) trivial ?_
          rotate_left
          · (intro w hSw; (try dsimp only at hSw); go_simp; try with_reducible rfl)
          (try simp only [Act.put, List.setIfInBounds_toArray, List.set_cons_zero, List.set_cons_succ])
          refine step_one 13 rfl (by kernel_rfl) (fun K hK => ?_)
          go_simp
          refine hK.out _ _ trivial (fun hHeld => ?_)
          clear hK K
          (try simp only [Act.put])
          refine wpAnyH_done (by kernel_rfl) ?_ _
          clear hHeld
          go_upto_region 22 with fail
          have hal2 : (p.al ++ p.al).length = (p.al.length + p.al.length) := by simp
          have hoks : ∀ r ∈ (p.al ++ p.al), okP r := fun r hr => by
              rcases List.mem_append.1 hr with hr | hr
              · exact HP.out.2.2.2.2.2.2.2 r hr
              · exact HP.out.2.2.2.2.2.2.2 r hr
          have hge : ∀ k, (Value.slice A2 (p.al.length + p.al.length) c2).ownBlock = some k → wd.heap.size ≤ k := fun k hk => (own_lt ho2 hk).1
          have hpf2 : PfO w5 (g5 :: [w.heap.size, w.heap.size + 1]) { p with al := (p.al ++ p.al) } (.slice A2 (p.al.length + p.al.length) c2) := ⟨A2, c2, by simp only [hal2], by simp only [hal2]; exact hc2, hm2, by simp only [hal2]; exact PfRd.of_own hal2 hoks (by rw [show (pfsV (p.al ++ p.al)).flatten = (pfsV p.al).flatten ++ (pfsV p.al).flatten from by simp [pfsV]]; exact ho2), fun _ b off hA hb => by
            subst hA
            have h1 := hge b rfl
            have h2 := HRA.out.blk.lt
            have h3 := HRA.out.low
            have h4 := HG.out
            simp at hb
            omega⟩
          have hra := HRA5.out.cell (p' := { p with al := (p.al ++ p.al) }) (x' := .slice A2 (p.al.length + p.al.length) c2) HP.out.1 HP.out.2.1 84 (.slice A2 (p.al.length + p.al.length) c2) (by omega) (peer_set_al HP.out.2.2 _ _) ⟨HP.out.2.2.1, HP.out.2.2.2.1, HP.out.2.2.2.2.1, HP.out.2.2.2.2.2.1, HP.out.2.2.2.2.2.2.1, hoks⟩ hpf2
          have hgc := grown_cell w5 g5 (qi * 85 + 84) (.slice A2 (p.al.length + p.al.length) c2)
          replace HK1d := Lib.hid (HK1d.out.below hB5 HK1d.out.lt)
          replace HK2d := Lib.hid (HK2d.out.below hB5 HK2d.out.lt)
          replace HBd := Lib.hid (HBd.out.trans (hB5.mono HBd.out.size))
          replace HK2d := Lib.hid (show Blk (w5.setCell ⟨g5, qi * 85 + 84, none⟩ (.slice A2 (p.al.length + p.al.length) c2)) (w.heap.size + 1) 27 zc.toList from by unfold Blk; rw [hgc.block _ HK2d.out.lt (by simp; have := HRA.out.low; have := HG.out; omega)]; exact HK2d.out)
          replace HK1d := Lib.hid (show Blk (w5.setCell ⟨g5, qi * 85 + 84, none⟩ (.slice A2 (p.al.length + p.al.length) c2)) w.heap.size 27 (y.cells (.slice (some ⟨g5, 0, none⟩) m d5)) from by unfold Blk; rw [hgc.block _ HK1d.out.lt (by simp; have := HRA.out.low; have := HG.out; omega)]; exact HK1d.out)
          replace HBd := Lib.hid (HBd.out.grown hgc (by have := HBd.out.size; omega) (by intro k hk; injection hk with hk; have := HRA.out.low; have := HG.out; omega))
          have hl2 : (y.peers.set qi { p with al := (p.al ++ p.al) }).length = m := by rw [List.length_set]; exact hm
          have HRO := Lib.hid (show RowOk b1 [w.heap.size, w.heap.size + 1] _ (.slice (some ⟨g5, 0, none⟩) m d5) (y.peers.set qi { p with al := (p.al ++ p.al) }) from .inr ⟨g5, d5, rest, _, by rw [hl2], hra⟩)
          have HLN2 := Lib.hid (show (y.peers.set qi { p with al := (p.al ++ p.al) }).length ≤ 20 ∧ ∀ p' ∈ y.peers.set qi { p with al := (p.al ++ p.al) }, p'.al.length ≤ 20 from ⟨by have := HML.out.2; omega, fun p2 hp2 => by
            rcases List.mem_or_eq_of_mem_set hp2 with h | rfl
            · exact HLN.out.2 _ h
            · simp only [hal2]; have := HL10.out.2 p (List.mem_of_getElem? HP.out.1); omega⟩)
          have hok2 : (ConfM.mk y.priv y.port (y.peers.set qi { p with al := (p.al ++ p.al) })).ok := ⟨HOK.out.1, HOK.out.2.1, hra.ok⟩
          generalize y.peers.set qi { p with al := (p.al ++ p.al) } = ps2 at HRO HLN2 hok2 hl2
          replace HOK := Lib.hid hok2
          replace HLN := Lib.hid (show (ConfM.mk y.priv y.port ps2).peers.length ≤ 20 ∧ ∀ p' ∈ (ConfM.mk y.priv y.port ps2).peers, p'.al.length ≤ 20 from HLN2.out)
          clear HLN2 hok2 hra
          generalize (w5.setCell ⟨g5, qi * 85 + 84, none⟩ (.slice A2 (p.al.length + p.al.length) c2)) = w4 at HK1d HK2d HBd HRO ⊢
          clear hgc HAT HFZ HRA HPF HP hpf2 hge hoks HRA5 fo zo fp
          have HK1 := Lib.hid (show Blk _ w.heap.size 27 (ConfM.cells ⟨y.priv, y.port, ps2⟩ (.slice (some ⟨g5, 0, none⟩) m d5)) from HK1d.out)
          have HK2 := HK2d
          have HBL := HBd
          clear HK1d HK2d HBd
          obtain ⟨cc, hcc⟩ : ∃ z, ((ConfM.mk y.priv y.port ps2).cells (.slice (some ⟨g5, 0, none⟩) m d5)).toArray = z := ⟨_, rfl⟩
          have HCC := Lib.hid hcc
          clear hcc
          have HONE := Lib.hid (show ∀ u ∈ (ConfM.mk y.priv y.port ps2).cells (.slice (some ⟨g5, 0, none⟩) m d5), u.oneCell' = true from by
            obtain ⟨A9, d9, e9, _⟩ := HRO.out.rd
            rw [e9]
            exact conf_one _ _ _ _)
          go_wp2_with (first | ((with_reducible refine at_op (.load 27 (.tmp 4)) rfl ?_); refine wpList_load_obj rfl 27 (.tmp 4) rfl w.heap.size 0 rfl _ HK1.out.all _ Tryz.underlying27 rfl (conf_cellsOf (ConfM.mk y.priv y.port ps2) HOK.out _) ?_; rw [HCC.out]) | ((with_reducible refine at_op (.store 27 (.tmp 8) (.tmp 104)) rfl ?_); refine wpList_store_obj rfl 27 (.tmp 8) (.tmp 104) rfl (w.heap.size + 1) 0 ((ConfM.mk y.priv y.port ps2).cells (.slice (some ⟨g5, 0, none⟩) m d5)) (by rfl) (by show Value.agg cc = _; rw [HCC.out]) 27 zc.toList HK2.out (conf_cellsOf (ConfM.mk y.priv y.port ps2) HOK.out _) (by rw [ConfM.cells_length HOK.out, HZC.out]; omega) HONE.out ?_; intro w9 hb9 hg9))
          rw [setL_all zc.toList _ (by rw [ConfM.cells_length HOK.out, HZC.out])] at hb9
          have hro9 := HRO.out.other hg9 (by simp) (by have := HG.out; omega)
          obtain ⟨A9, d9, e9, hd9, hp9⟩ := hro9.rd
          exact bodyPost_ret (results_obj rfl _ _ (w.heap.size + 1) 27 ((ConfM.mk y.priv y.port ps2).cells (.slice (some ⟨g5, 0, none⟩) m d5)) _ rfl hb9 Tryz.underlying27 rfl (conf_cellsOf (ConfM.mk y.priv y.port ps2) HOK.out _)) rfl ⟨(ConfM.mk y.priv y.port ps2), (.slice (some ⟨g5, 0, none⟩) m d5), rfl, HOK.out, HLN.out.1, HLN.out.2, A9, d9, e9, hd9, hp9, HBL.out.grown hg9 (by have := HBL.out.size; omega) (by intro k hk; injection hk with hk; omega)⟩
      · obtain ⟨pi, hpi, hpz, hps, hpb⟩ := peerZero
        have HPI := Lib.hid (And.intro hpi (And.intro hpz (And.intro hps hpb)))
        obtain ⟨kz, hkz⟩ : ∃ z, at_ % 9 = z := ⟨_, rfl⟩
        have HKZ := Lib.hid (show (IntKind.i64.wrap (at_ : Int)).tmod 9 = (kz : Int) ∧ kz < 9 from ⟨by rw [show IntKind.i64.wrap (at_ : Int) = (at_ : Int) from by rw [IntKind.wrap_i64]; omega, Int.tmod_eq_emod_of_nonneg (by omega), ← hkz]; rfl, by omega⟩)
        have fb : wd.cell? ⟨w.heap.size, 33, none⟩ = some (.slice (some ⟨g5, 0, none⟩) m d5) := by rw [HK1d.out.cell]; exact conf_at HOK.out _
        have w1' : IntKind.i64.wrap (at_ : Int) = (at_ : Int) := by rw [IntKind.wrap_i64]; omega
        have e1 : (at_ : Int) % 9 = (kz : Int) := by omega
        have e2 : (at_ : Int).tmod 9 = (kz : Int) := by rw [Int.tmod_eq_emod_of_nonneg (by omega)]; exact e1
        have w2' : IntKind.i64.wrap (kz : Int) = (kz : Int) := by have := HKZ.out.2; rw [IntKind.wrap_i64]; omega
        have hown := HRA.out.own
        rw [hm] at hown
        have HOWN := Lib.hid hown
        clear hpi hpz hps hpb hown
        go_upto_region 22 with (at_builtin; refine wpList_append_zerosK _ rfl (.tmp 31) (.tmp 34) 25 3 rfl b1 57 pi _ 85 136 .i64 .i64 Tryz.underlying25 Tryz.underlying3 HPI.out.1 HPI.out.2.1 HPI.out.2.2.1 (by rfl) (by decide) HPI.out.2.2.2 (by decide) (peer_one peer0 none 0 0) g5 m d5 (peersV y.peers vs).flatten rfl HOWN.out kz (by rfl) (by have := HKZ.out; have := HML.out; omega) (Nat.le_of_lt (Nat.lt_of_le_of_lt HRA.out.low HRA.out.blk.lt)) ?_; intro v2 w5 ho2 hg2 hv2; have hk5 : Blk w5 w.heap.size 27 (y.cells (.slice (some ⟨g5, 0, none⟩) m d5)) := (by unfold Blk; rw [hg2.block _ HK1d.out.lt (by simp; have := HRA.out.low; have := HG.out; omega)]; exact HK1d.out); have fo : w5.cell? ⟨w.heap.size, 33, none⟩ = some (.slice (some ⟨g5, 0, none⟩) m d5) := (by rw [hk5.cell]; exact conf_at HOK.out _); have zo := hk5.frozen 33; have hz5 := HRA.out.zeros hm ho2 hg2 hv2; obtain ⟨A2, c2, rfl, _, _, _⟩ := own_sliceK ho2)
        clear fb fo zo e1 e2 w1' w2'
        have hl2 : (y.peers ++ List.replicate kz peer0).length = m + kz := by rw [List.length_append, List.length_replicate, hm]
        obtain ⟨_, _, _, hpok, _⟩ := hz5.own
        have hk6 := hk5.set_ 33 (.slice A2 (m + kz) c2)
        rw [conf_set_peers HOK.out] at hk6
        have hgc := grown_cell w5 w.heap.size 33 (.slice A2 (m + kz) c2)
        have hk2 : Blk w5 (w.heap.size + 1) 27 zc.toList := by unfold Blk; rw [hg2.block _ HK2d.out.lt (by simp; have := HRA.out.low; have := HG.out; omega)]; exact HK2d.out
        have HK2 := Lib.hid (show Blk (w5.setCell ⟨w.heap.size, 33, none⟩ (.slice A2 (m + kz) c2)) (w.heap.size + 1) 27 zc.toList from by unfold Blk; rw [hgc.block _ hk2.lt (by simp)]; exact hk2)
        have hbl5 := HBd.out.grown hg2 (by have := HBd.out.size; omega) (by intro k hk; injection hk with hk; have := HRA.out.low; have := HG.out; omega)
        have HBL := Lib.hid (hbl5.grown hgc (by have := hbl5.size; omega) (by intro k hk; injection hk with hk; omega))
        have HRO := Lib.hid (hz5.other hgc (by simp) (by have := HG.out; omega))
        have HK1 := Lib.hid (show Blk (w5.setCell ⟨w.heap.size, 33, none⟩ (.slice A2 (m + kz) c2)) w.heap.size 27 (ConfM.cells ⟨y.priv, y.port, y.peers ++ List.replicate kz peer0⟩ (.slice A2 (m + kz) c2)) from hk6)
        have HLN2 := Lib.hid (show (y.peers ++ List.replicate kz peer0).length ≤ 20 ∧ ∀ p' ∈ y.peers ++ List.replicate kz peer0, p'.al.length ≤ 20 from ⟨by rw [hl2]; have := HML.out.2; have := HKZ.out.2; omega, fun p2 hp2 => by
          rcases List.mem_append.1 hp2 with h | h
          · exact HLN.out.2 _ h
          · rw [List.eq_of_mem_replicate h]; exact Nat.zero_le _⟩)
        have hok2 : (ConfM.mk y.priv y.port (y.peers ++ List.replicate kz peer0)).ok := ⟨HOK.out.1, HOK.out.2.1, hpok⟩
        generalize y.peers ++ List.replicate kz peer0 = ps2 at HRO HLN2 hok2 hl2 HK1
        replace HOK := Lib.hid hok2
        replace HLN := Lib.hid (show (ConfM.mk y.priv y.port ps2).peers.length ≤ 20 ∧ ∀ p' ∈ (ConfM.mk y.priv y.port ps2).peers, p'.al.length ≤ 20 from HLN2.out)
        generalize (w5.setCell ⟨w.heap.size, 33, none⟩ (.slice A2 (m + kz) c2)) = w6 at HK1 HK2 HBL HRO ⊢
        clear HLN2 hok2 hk2 hbl5 hgc hk6 hk5 hz5 hpok ho2 hg2 hv2 HAT HFZ HRA HPF HP HK1d HK2d HBd HOWN HPI
        obtain ⟨cc, hcc⟩ : ∃ z, ((ConfM.mk y.priv y.port ps2).cells (.slice A2 (m + kz) c2)).toArray = z := ⟨_, rfl⟩
        have HCC := Lib.hid hcc
        clear hcc
        have HONE := Lib.hid (show ∀ u ∈ (ConfM.mk y.priv y.port ps2).cells (.slice A2 (m + kz) c2), u.oneCell' = true from by
          obtain ⟨A9, d9, e9, _⟩ := HRO.out.rd
          rw [e9]
          exact conf_one _ _ _ _)
        go_wp2_with (first | ((with_reducible refine at_op (.load 27 (.tmp 4)) rfl ?_); refine wpList_load_obj rfl 27 (.tmp 4) rfl w.heap.size 0 rfl _ HK1.out.all _ Tryz.underlying27 rfl (conf_cellsOf (ConfM.mk y.priv y.port ps2) HOK.out _) ?_; rw [HCC.out]) | ((with_reducible refine at_op (.store 27 (.tmp 8) (.tmp 104)) rfl ?_); refine wpList_store_obj rfl 27 (.tmp 8) (.tmp 104) rfl (w.heap.size + 1) 0 ((ConfM.mk y.priv y.port ps2).cells (.slice A2 (m + kz) c2)) (by rfl) (by show Value.agg cc = _; rw [HCC.out]) 27 zc.toList HK2.out (conf_cellsOf (ConfM.mk y.priv y.port ps2) HOK.out _) (by rw [ConfM.cells_length HOK.out, HZC.out]; omega) HONE.out ?_; intro w9 hb9 hg9))
        rw [setL_all zc.toList _ (by rw [ConfM.cells_length HOK.out, HZC.out])] at hb9
        have hro9 := HRO.out.other hg9 (by simp) (by have := HG.out; omega)
        obtain ⟨A9, d9, e9, hd9, hp9⟩ := hro9.rd
        exact bodyPost_ret (results_obj rfl _ _ (w.heap.size + 1) 27 ((ConfM.mk y.priv y.port ps2).cells (.slice A2 (m + kz) c2)) _ rfl hb9 Tryz.underlying27 rfl (conf_cellsOf (ConfM.mk y.priv y.port ps2) HOK.out _)) rfl ⟨(ConfM.mk y.priv y.port ps2), (.slice A2 (m + kz) c2), rfl, HOK.out, HLN.out.1, HLN.out.2, A9, d9, e9, hd9, hp9, HBL.out.grown hg9 (by have := HBL.out.size; omega) (by intro k hk; injection hk with hk; omega)⟩
end Go.Proofs.YtcbfchkhbngpkaaGreatDoor
