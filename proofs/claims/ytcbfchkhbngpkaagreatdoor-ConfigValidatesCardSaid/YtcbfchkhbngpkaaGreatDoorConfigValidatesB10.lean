/-
  The contract of the reference's Validate of configurations. The contract of burrowlaw13's cut. Zero objects that are appended to a row of the call's own. No statement is proved here.
-/
import Derived.RegionTactic
import Derived.Deep.DeepCutAuto
import Derived.Test.YtcbfchkhbngpkaaGreatDoorConfigValidatesB9
namespace Go.Proofs.YtcbfchkhbngpkaaGreatDoor
open Go.RowKit

theorem pes_under : Tryz.prog.underlying 25 = some (.slice (Tryz.prog.elem 25)) := by kernel_rfl
theorem pes_elem : Tryz.prog.elem 25 = 57 := by kernel_rfl
theorem pes_sizeOf (w : World) : (sizeOf (Tryz.prog.elem 25)).run Tryz.prog w = .ok 85 w := by
  have h : (Tryz.prog.info? 57).map (·.size) = some 85 := by kernel_rfl
  rw [pes_elem]
  cases hi : Tryz.prog.info? 57 with
  | none => rw [hi] at h; cases h
  | some i =>
    rw [hi] at h
    simp only [Option.map_some, Option.some.injEq] at h
    simp [sizeOf, typeInfo, hi, h]
set_option maxRecDepth 100000 in
theorem pes_h {n : Nat} (A : Option Addr) (c j : Nat) (h2 : j ≤ n) (h3 : n ≤ c) (w : World) : (Instr.sliceAt 25 (.slice A n c) none (some (.int .i64 (j : Int))) none).run Tryz.prog w = .ok (.slice (addrK A 0 c 85) j c) w := by
  rw [run_sliceAt_slice (P := Tryz.prog) (w := w) 25 _ _ _ _ pes_under, run_slice_h (P := Tryz.prog) (w := w) 25 A n c pes_under .i64 j (by omega) (by omega), pes_sizeOf]
  simp only [Result.andThen, sliced, Int.toNat_natCast, Nat.sub_zero]
  rfl
theorem peer_pubB {w : World} {g : Nat} {p : PeerM} {v : Value} (h : At w g 0 (p.cells v)) : At w g 0 (p.pub.map u8v) := fun j u hj => h j u (by rw [PeerM.cells, List.getElem?_append_left (List.getElem?_eq_some_iff.1 hj).1]; exact hj)
theorem addrK_zero (b off c k : Nat) : addrK (some ⟨b, off, none⟩) 0 c k = some ⟨b, off, none⟩ := by
  unfold addrK
  split
  · rfl
  · simp [Addr.add]
theorem rep_true {α : Type} {eq : α → α → Bool} {l : List α} {i q : Nat} {a b : α} (hi : l[i]? = some a) (hq : l[q]? = some b) (h : q < i) (he : eq a b = true) : repM eq l = true := by
  have hlt := (List.getElem?_eq_some_iff.1 hi).1
  rw [repM, List.any_eq_true]
  refine ⟨i, List.mem_range.2 hlt, ?_⟩
  rw [hi, Option.any_some, hasN, List.any_eq_true]
  exact ⟨q, List.mem_range.2 h, by rw [List.getElem?_take, if_pos h, hq, Option.any_some]; exact he⟩
theorem rep_false {α : Type} {eq : α → α → Bool} {l : List α} (h : ∀ (i q : Nat) (a b : α), q < i → l[i]? = some a → l[q]? = some b → eq a b = false) : repM eq l = false := by
  rw [repM, List.any_eq_false]
  intro i hi
  have hlt := List.mem_range.1 hi
  rw [List.getElem?_eq_getElem hlt, Option.any_some, hasN, Bool.not_eq_true, List.any_eq_false]
  intro q hq
  have hqi := List.mem_range.1 hq
  rw [List.getElem?_take, if_pos hqi, List.getElem?_eq_getElem (by omega), Option.any_some, h i q _ _ hqi (List.getElem?_eq_getElem hlt) (List.getElem?_eq_getElem (by omega))]
  simp
theorem conf_portA {w : World} {g : Nat} {x : ConfM} {v : Value} (h : At w g 0 (x.cells v)) (hx : x.ok) : w.cell? ⟨g, 32, none⟩ = some (.int .i64 x.port) := by
  have h2 := h 32 (.int .i64 x.port) (by rw [ConfM.cells, List.getElem?_append_right (by rw [List.length_map, hx.1]; decide), List.length_map, hx.1]; rfl)
  simpa using h2
theorem conf_peersA {w : World} {g : Nat} {x : ConfM} {v : Value} (h : At w g 0 (x.cells v)) (hx : x.ok) : w.cell? ⟨g, 33, none⟩ = some v := by
  have h2 := h 33 v (by rw [ConfM.cells, List.getElem?_append_right (by rw [List.length_map, hx.1]; decide), List.length_map, hx.1]; rfl)
  simpa using h2
set_option maxRecDepth 100000 in
set_option maxHeartbeats 8000000 in
theorem refValidate_any (x : ConfM) (A : Option Addr) (n cap : Nat) (w : World) (hc : x.ok) (hr : PeRd w w.heap.size A n x.peers) (hn : n ≤ 1000) (ha : ∀ p ∈ x.peers, p.al.length ≤ 1000) (hcap : n ≤ cap) :
    Calls Tryz.prog 12 #[.agg (x.cells (.slice A n cap)).toArray] w fun e w' => e = .returned (.int .i64 (validE x : Int)) ∧ Below w.heap.size w w' := by
  obtain ⟨pi, hpi, hpz, hps, hpb⟩ := prefInfo
  have HPI := Lib.hid (And.intro hpi (And.intro hpz (And.intro hps hpb)))
  have HC := Lib.hid hc
  have HR := Lib.hid hr
  have HA := Lib.hid ha
  have HLN := Lib.hid hr.len
  have HN := Lib.hid (And.intro hn hcap)
  obtain ⟨cs, hcs⟩ : ∃ z, x.cells (.slice A n cap) = z := ⟨_, rfl⟩
  have HCS := Lib.hid hcs
  rw [hcs]
  obtain ⟨ca, hca⟩ : ∃ z, cs.toArray = z := ⟨_, rfl⟩
  rw [hca]
  have hb0 := (Below.refl w.heap.size w).alloc (Nat.le_refl _) (.cells ca 27)
  have HB0 := Lib.hid hb0
  have HK0 := Lib.hid (show Blk (w.alloc (.cells ca 27)) w.heap.size 27 cs from by rw [← hca]; exact Blk.new w 27 cs)
  clear hpi hpz hps hpb hc hr hn ha hcap hcs hca hb0
  go_enter Tryz.func12, Tryz.ntmps12
  go_upto_region 1 with fail
  generalize w.alloc (.cells ca 27) = w1 at HB0 HK0 ⊢
  obtain ⟨g, hg⟩ : ∃ g, w.heap.size = g := ⟨_, rfl⟩
  have HKG := Lib.hid (show Blk w1 g 27 cs from by rw [← hg]; exact HK0.out)
  rw [hg]
  clear hg HK0
  have HAT := Lib.hid (fun (W : World) (h : Below w1.heap.size w1 W) => (show At W g 0 (x.cells (.slice A n cap)) from by rw [HCS.out]; exact (HKG.out.below h HKG.out.lt).all))
  have fo := conf_peersA (HAT.out w1 (Below.refl _ _)) HC.out
  go_wp2_with fail
  clear fo
  go_loopw [3, 19] (fun v i wr => ∃ j : Nat, j ≤ n ∧ i = .int .i64 (j : Int) ∧ wr.ownsRow w1.heap.size 60 18 v (alls (x.peers.take j)).length (pfsV (alls (x.peers.take j))).flatten ∧ Below w1.heap.size w1 wr) (fun _ i _ => n - (intOf i).toNat)
  case atStart => exact ⟨0, Nat.zero_le _, rfl, World.ownsRow_nil _ _ _ _, Below.refl _ _⟩
  case round =>
    obtain ⟨j, hj, rfl, ho, hb⟩ := hrel
    have HO := Lib.hid ho
    have HB := Lib.hid hb
    clear ho hb
    by_cases hjn : j < n
    · have d1 : decide ((j : Int) < (n : Int)) = true := by simp; omega
      obtain ⟨b, off, rfl⟩ := HR.out.addr (by omega)
      obtain ⟨p, hp⟩ : ∃ p, x.peers[j]? = some p := ⟨x.peers[j]'(by rw [HLN.out]; omega), List.getElem?_eq_getElem _⟩
      obtain ⟨hpk, A, c, hcc, hcm, hpf, hbl, hat⟩ := HR.out.at j p hp
      have HP := Lib.hid (And.intro hp (And.intro hpk (HA.out p (List.mem_of_getElem? hp))))
      have HPF := Lib.hid hpf
      have HAT := Lib.hid (show At wr b (off + j * 85) (p.cells (.slice A p.al.length c)) from fun q v hv => (World.cell?_of_block ((HB0.out.trans (HB.out.mono HB0.out.size)).block b hbl)).trans (hat q v hv))
      obtain ⟨oc, hoc⟩ : ∃ z, (p.cells (.slice A p.al.length c)).toArray = z := ⟨_, rfl⟩
      have HOC := Lib.hid hoc
      obtain ⟨zs, hzs⟩ : ∃ z, (#[.int .u8 0, .int .u8 0, .int .u8 0, .int .u8 0, .int .u8 0, .int .u8 0, .int .u8 0, .int .u8 0, .int .u8 0, .int .u8 0, .int .u8 0, .int .u8 0, .int .u8 0, .int .u8 0, .int .u8 0, .int .u8 0, .int .u8 0, .int .u8 0, .int .u8 0, .int .u8 0, .int .u8 0, .int .u8 0, .int .u8 0, .int .u8 0, .int .u8 0, .int .u8 0, .int .u8 0, .int .u8 0, .int .u8 0, .int .u8 0, .int .u8 0, .int .u8 0, .int .u8 0, .int .u8 0, .int .u8 0, .int .u8 0, .int .u8 0, .int .u8 0, .int .u8 0, .int .u8 0, .int .u8 0, .int .u8 0, .int .u8 0, .int .u8 0, .int .u8 0, .int .u8 0, .int .u8 0, .int .u8 0, .int .u8 0, .int .u8 0, .int .u8 0, .int .u8 0, .int .u8 0, .int .u8 0, .int .u8 0, .int .u8 0, .int .u8 0, .int .u8 0, .int .u8 0, .int .u8 0, .int .u8 0, .int .u8 0, .int .u8 0, .int .u8 0, .bool false, .bool false, .int .u8 0, .int .u8 0, .int .u8 0, .int .u8 0, .int .u8 0, .int .u8 0, .int .u8 0, .int .u8 0, .int .u8 0, .int .u8 0, .int .u8 0, .int .u8 0, .int .u8 0, .int .u8 0, .int .u8 0, .int .u8 0, .int .i64 0, .int .i64 0, .slice none 0 0] : Array Value).toList = z := ⟨_, rfl⟩
      have HZB := Lib.hid (show Blk (wr.alloc (.cells #[.int .u8 0, .int .u8 0, .int .u8 0, .int .u8 0, .int .u8 0, .int .u8 0, .int .u8 0, .int .u8 0, .int .u8 0, .int .u8 0, .int .u8 0, .int .u8 0, .int .u8 0, .int .u8 0, .int .u8 0, .int .u8 0, .int .u8 0, .int .u8 0, .int .u8 0, .int .u8 0, .int .u8 0, .int .u8 0, .int .u8 0, .int .u8 0, .int .u8 0, .int .u8 0, .int .u8 0, .int .u8 0, .int .u8 0, .int .u8 0, .int .u8 0, .int .u8 0, .int .u8 0, .int .u8 0, .int .u8 0, .int .u8 0, .int .u8 0, .int .u8 0, .int .u8 0, .int .u8 0, .int .u8 0, .int .u8 0, .int .u8 0, .int .u8 0, .int .u8 0, .int .u8 0, .int .u8 0, .int .u8 0, .int .u8 0, .int .u8 0, .int .u8 0, .int .u8 0, .int .u8 0, .int .u8 0, .int .u8 0, .int .u8 0, .int .u8 0, .int .u8 0, .int .u8 0, .int .u8 0, .int .u8 0, .int .u8 0, .int .u8 0, .int .u8 0, .bool false, .bool false, .int .u8 0, .int .u8 0, .int .u8 0, .int .u8 0, .int .u8 0, .int .u8 0, .int .u8 0, .int .u8 0, .int .u8 0, .int .u8 0, .int .u8 0, .int .u8 0, .int .u8 0, .int .u8 0, .int .u8 0, .int .u8 0, .int .i64 0, .int .i64 0, .slice none 0 0] 57)) wr.heap.size 57 zs from by rw [← hzs]; exact Blk.new wr 57 _)
      have HZL := Lib.hid (show zs.length = 85 from by rw [← hzs]; rfl)
      clear hp hpk hpf hbl hat hoc hcc hcm hzs
      go_upto_region 5 with (first | ((with_reducible refine at_op (.load 57 (.tmp 21)) rfl ?_); refine wpList_load_obj rfl 57 (.tmp 21) rfl b _ rfl _ HAT.out _ Tryz.underlying57 rfl (peer_cellsOf p HP.out.2.1 _) ?_; rw [HOC.out]) | ((with_reducible refine at_op (.store 57 (.tmp 5) (.tmp 22)) rfl ?_); refine wpList_store_obj rfl 57 (.tmp 5) (.tmp 22) rfl wr.heap.size 0 (p.cells (.slice A p.al.length c)) rfl (by show Value.agg oc = _; rw [HOC.out]) 57 zs HZB.out (peer_cellsOf p HP.out.2.1 _) (by rw [PeerM.cells_length HP.out.2.1, HZL.out]; decide) (peer_one p A _ c) ?_; intro w2 hb2 hg2))
      rw [setL_all zs _ (by rw [PeerM.cells_length HP.out.2.1, HZL.out])] at hb2
      have hbl2 : Below wr.heap.size wr w2 := ((Below.refl _ _).alloc (Nat.le_refl _) _).grown hg2 (by simp) (by intro k hk; injection hk with hk; omega)
      have HBK := Lib.hid hb2
      have HW := Lib.hid (HB.out.trans (hbl2.mono HB.out.size))
      have HO2 := Lib.hid (own_below HO.out hbl2)
      have fa := peer_al hb2 HP.out.2.1
      have HPF2 := Lib.hid ((HPF.out.1.below (HB0.out.trans (HW.out.mono HB0.out.size))).mono (HB0.out.trans (HW.out.mono HB0.out.size)).size)
      have hpl := (alls_le fun q hq => (HA.out q (List.mem_of_mem_take hq : q ∈ x.peers)) : (alls (x.peers.take j)).length ≤ 1000 * (x.peers.take j).length)
      have HPL := Lib.hid (show (alls (x.peers.take j)).length + p.al.length ≤ 10000000 ∧ j + 1 ≤ 1000 from by
        have h1 := HP.out.2.2
        have h2 := HN.out.1
        rw [List.length_take] at hpl
        omega)
      have HML := Lib.hid (show maxLen = 9223372036854775807 from rfl)
      have HAP := Lib.hid (show alls (x.peers.take (j + 1)) = alls (x.peers.take j) ++ p.al from by rw [take_snoc HP.out.1, alls_snoc])
      generalize wr.heap.size = g2 at fa ⊢
      clear hb2 hg2 hbl2 HZB HAT HO HB hpl
      obtain ⟨al0, hal0⟩ : ∃ z, alls (x.peers.take j) = z := ⟨_, rfl⟩
      rw [hal0] at HO2 HPL HAP
      clear hal0
      obtain ⟨j2, hj2⟩ : ∃ z, j + 1 = z := ⟨_, rfl⟩
      have e8 : (j : Int) + 1 = (j2 : Int) := by omega
      have w8' : IntKind.i64.wrap (j2 : Int) = (j2 : Int) := by have := HN.out; rw [IntKind.wrap_i64]; omega
      have HJ2 := Lib.hid (show j2 ≤ n ∧ n - j2 < n - j from by omega)
      rw [hj2] at HAP
      clear hj2 hj hjn d1
      go_wp2_with (at_builtin; refine wpList_append_rows _ rfl (.tmp 23) (.tmp 25) 49 rfl w1.heap.size 60 pi _ 18 32 Tryz.underlying49 HPI.out.1 HPI.out.2.1 HPI.out.2.2.1 HPI.out.2.2.2 (by rfl) (by decide) _ al0.length (pfsV al0).flatten rfl HO2.out _ _ p.al.length c (pfsV p.al) rfl HPF2.out (pfs_one p.al) (by have := HPL.out; have := HML.out; omega) (by have := HPL.out; omega) HW.out.size ?_; intro v4 w4 ho4 hg4 hv4)
      have HW4 := Lib.hid (HW.out.grown hg4 HW.out.size (fun k e => (own_lt HO2.out e).1))
      have HO4 := Lib.hid ho4
      clear ho4 hg4 hv4 fa
      go_roundw
      case rel => exact ⟨j2, HJ2.out.1, rfl, by rw [HAP.out, List.length_append, pfs_app]; exact HO4.out, HW4.out⟩
      case measure => simp [intOf]; exact HJ2.out.2
    · obtain rfl : j = n := by omega
      have d1 : decide ((j : Int) < (j : Int)) = false := by simp
      have HALL := Lib.hid (show alls (x.peers.take j) = allP x from by rw [List.take_of_length_le (by rw [HLN.out]; exact Nat.le_refl _)]; rfl)
      rw [HALL.out] at HO
      clear HALL
      obtain ⟨A3, c3, rfl, _, _, _⟩ := own_sliceK HO.out
      have fo := conf_peersA (HAT.out _ HB.out) HC.out
      have fp := conf_portA (HAT.out _ HB.out) HC.out
      clear d1
      obtain ⟨L, hL⟩ : ∃ z, (allP x).length = z := ⟨_, rfl⟩
      obtain ⟨pt, hpt⟩ : ∃ z, x.port = z := ⟨_, rfl⟩
      rw [hpt] at fp
      have HVD := Lib.hid (show validE x = if 8 < j ∨ 16 < L then 12 else if pt < 0 ∨ 65535 < pt ∨ x.peers.all rightP = false then 1 else if repM eqK (x.peers.map PeerM.pub) = true ∨ repM eqP (allP x) = true then 19 else 0 from by rw [validE, HLN.out, hL, hpt])
      rw [hL] at HO ⊢
      have HLL := Lib.hid hL
      have HPT := Lib.hid (show inI64 pt from by rw [← hpt]; exact HC.out.2.1)
      clear hL hpt hj hjn
      go_upto_region 7 with fail
      by_cases h8 : 8 < j
      · have d2 : decide ((j : Int) > 8) = true := by simp; omega
        have HV := Lib.hid (show validE x = 12 from by rw [HVD.out, if_pos (.inl h8)])
        go_wp2_with fail
        go_ret
        exact ⟨by rw [HV.out]; rfl, HB0.out.trans (HB.out.mono HB0.out.size)⟩
      · have d2 : decide ((j : Int) > 8) = false := by simp; omega
        have HJ8 := Lib.hid (show j ≤ 8 from by omega)
        by_cases h16 : 16 < L
        · have d3 : decide ((L : Int) > 16) = true := by simp; omega
          have HV := Lib.hid (show validE x = 12 from by rw [HVD.out, if_pos (.inr h16)])
          clear h8
          go_wp2_with fail
          go_ret
          exact ⟨by rw [HV.out]; rfl, HB0.out.trans (HB.out.mono HB0.out.size)⟩
        · have d3 : decide ((L : Int) > 16) = false := by simp; omega
          have HL16 := Lib.hid (show L ≤ 16 from by omega)
          replace HVD := Lib.hid (show validE x = if pt < 0 ∨ 65535 < pt ∨ x.peers.all rightP = false then 1 else if repM eqK (x.peers.map PeerM.pub) = true ∨ repM eqP (allP x) = true then 19 else 0 from by rw [HVD.out, if_neg (by omega)])
          clear h8 h16
          go_upto_region 9 with fail
          clear d2 d3
          by_cases hp0 : pt < 0
          · have d4 : decide (pt < 0) = true := decide_eq_true hp0
            have HV := Lib.hid (show validE x = 1 from by rw [HVD.out, if_pos (.inl hp0)])
            clear hp0
            go_wp2_with fail
            go_ret
            exact ⟨by rw [HV.out]; rfl, HB0.out.trans (HB.out.mono HB0.out.size)⟩
          · have d4 : decide (pt < 0) = false := decide_eq_false hp0
            by_cases hp1 : 65535 < pt
            · have d5 : decide (pt > 65535) = true := decide_eq_true hp1
              have d5b : decide (65535 < pt) = true := decide_eq_true hp1
              have HV := Lib.hid (show validE x = 1 from by rw [HVD.out, if_pos (.inr (.inl hp1))])
              clear hp0 hp1
              go_wp2_with fail
              go_ret
              exact ⟨by rw [HV.out]; rfl, HB0.out.trans (HB.out.mono HB0.out.size)⟩
            · have d5 : decide (pt > 65535) = false := decide_eq_false hp1
              have d5b : decide (65535 < pt) = false := decide_eq_false hp1
              replace HVD := Lib.hid (show validE x = if x.peers.all rightP = false then 1 else if repM eqK (x.peers.map PeerM.pub) = true ∨ repM eqP (allP x) = true then 19 else 0 from by
                rw [HVD.out]
                by_cases h : x.peers.all rightP = false
                · rw [if_pos (.inr (.inr h)), if_pos h]
                · rw [if_neg (fun hh => by rcases hh with a | a | a; exact hp0 a; exact hp1 a; exact h a), if_neg h])
              clear hp0 hp1
              go_upto_region 11 with fail
              clear d4 d5 d5b fp
              obtain ⟨w5, rfl⟩ : ∃ z, z = wr := ⟨wr, rfl⟩
              have HB5 := Lib.hid HB.out
              have HO5 := Lib.hid HO.out
              clear HB HO
              go_wp2_with fail
              clear fo
              go_loopw [48] (fun i wr => ∃ k : Nat, k ≤ j ∧ i = .int .i64 (k : Int) ∧ (∀ q z, q < k → x.peers[q]? = some z → rightP z = true) ∧ Below w5.heap.size w5 wr) (fun i _ => j - (intOf i).toNat)
              case atStart => exact ⟨0, Nat.zero_le _, rfl, fun q z h => absurd h (Nat.not_lt_zero _), Below.refl _ _⟩
              case round =>
                obtain ⟨k, hk, rfl, hno, hb⟩ := hrel
                have HNO := Lib.hid hno
                have HB := Lib.hid (HB5.out.trans (hb.mono HB5.out.size))
                have HBW := Lib.hid hb
                clear hno hb
                by_cases hkn : k < j
                · have d1 : decide ((k : Int) < (j : Int)) = true := by simp; omega
                  obtain ⟨b, off, rfl⟩ := HR.out.addr (by omega)
                  obtain ⟨p2, hp⟩ : ∃ p, x.peers[k]? = some p := ⟨x.peers[k]'(by rw [HLN.out]; omega), List.getElem?_eq_getElem _⟩
                  obtain ⟨hpk, A2, c2, hcc, hcm, hpf, hbl, hat⟩ := HR.out.at k p2 hp
                  have HP2 := Lib.hid (And.intro hp (And.intro hpk (HA.out p2 (List.mem_of_getElem? hp))))
                  have HPF2 := Lib.hid hpf
                  have HAT2 := Lib.hid (show At wr b (off + k * 85) (p2.cells (.slice A2 p2.al.length c2)) from fun q v hv => (World.cell?_of_block ((HB0.out.trans (HB.out.mono HB0.out.size)).block b hbl)).trans (hat q v hv))
                  obtain ⟨oc2, hoc⟩ : ∃ z, (p2.cells (.slice A2 p2.al.length c2)).toArray = z := ⟨_, rfl⟩
                  have HOC2 := Lib.hid hoc
                  obtain ⟨zs, hzs⟩ : ∃ z, (#[.int .u8 0, .int .u8 0, .int .u8 0, .int .u8 0, .int .u8 0, .int .u8 0, .int .u8 0, .int .u8 0, .int .u8 0, .int .u8 0, .int .u8 0, .int .u8 0, .int .u8 0, .int .u8 0, .int .u8 0, .int .u8 0, .int .u8 0, .int .u8 0, .int .u8 0, .int .u8 0, .int .u8 0, .int .u8 0, .int .u8 0, .int .u8 0, .int .u8 0, .int .u8 0, .int .u8 0, .int .u8 0, .int .u8 0, .int .u8 0, .int .u8 0, .int .u8 0, .int .u8 0, .int .u8 0, .int .u8 0, .int .u8 0, .int .u8 0, .int .u8 0, .int .u8 0, .int .u8 0, .int .u8 0, .int .u8 0, .int .u8 0, .int .u8 0, .int .u8 0, .int .u8 0, .int .u8 0, .int .u8 0, .int .u8 0, .int .u8 0, .int .u8 0, .int .u8 0, .int .u8 0, .int .u8 0, .int .u8 0, .int .u8 0, .int .u8 0, .int .u8 0, .int .u8 0, .int .u8 0, .int .u8 0, .int .u8 0, .int .u8 0, .int .u8 0, .bool false, .bool false, .int .u8 0, .int .u8 0, .int .u8 0, .int .u8 0, .int .u8 0, .int .u8 0, .int .u8 0, .int .u8 0, .int .u8 0, .int .u8 0, .int .u8 0, .int .u8 0, .int .u8 0, .int .u8 0, .int .u8 0, .int .u8 0, .int .i64 0, .int .i64 0, .slice none 0 0] : Array Value).toList = z := ⟨_, rfl⟩
                  have HZB := Lib.hid (show Blk (wr.alloc (.cells #[.int .u8 0, .int .u8 0, .int .u8 0, .int .u8 0, .int .u8 0, .int .u8 0, .int .u8 0, .int .u8 0, .int .u8 0, .int .u8 0, .int .u8 0, .int .u8 0, .int .u8 0, .int .u8 0, .int .u8 0, .int .u8 0, .int .u8 0, .int .u8 0, .int .u8 0, .int .u8 0, .int .u8 0, .int .u8 0, .int .u8 0, .int .u8 0, .int .u8 0, .int .u8 0, .int .u8 0, .int .u8 0, .int .u8 0, .int .u8 0, .int .u8 0, .int .u8 0, .int .u8 0, .int .u8 0, .int .u8 0, .int .u8 0, .int .u8 0, .int .u8 0, .int .u8 0, .int .u8 0, .int .u8 0, .int .u8 0, .int .u8 0, .int .u8 0, .int .u8 0, .int .u8 0, .int .u8 0, .int .u8 0, .int .u8 0, .int .u8 0, .int .u8 0, .int .u8 0, .int .u8 0, .int .u8 0, .int .u8 0, .int .u8 0, .int .u8 0, .int .u8 0, .int .u8 0, .int .u8 0, .int .u8 0, .int .u8 0, .int .u8 0, .int .u8 0, .bool false, .bool false, .int .u8 0, .int .u8 0, .int .u8 0, .int .u8 0, .int .u8 0, .int .u8 0, .int .u8 0, .int .u8 0, .int .u8 0, .int .u8 0, .int .u8 0, .int .u8 0, .int .u8 0, .int .u8 0, .int .u8 0, .int .u8 0, .int .i64 0, .int .i64 0, .slice none 0 0] 57)) wr.heap.size 57 zs from by rw [← hzs]; exact Blk.new wr 57 _)
                  have HZL := Lib.hid (show zs.length = 85 from by rw [← hzs]; rfl)
                  clear hp hpk hpf hbl hat hoc hcc hcm hzs
                  go_upto_region 14 with (first | ((with_reducible refine at_op (.load 57 (.tmp 50)) rfl ?_); refine wpList_load_obj rfl 57 (.tmp 50) rfl b _ rfl _ HAT2.out _ Tryz.underlying57 rfl (peer_cellsOf p2 HP2.out.2.1 _) ?_; rw [HOC2.out]) | ((with_reducible refine at_op (.store 57 (.tmp 7) (.tmp 51)) rfl ?_); refine wpList_store_obj rfl 57 (.tmp 7) (.tmp 51) rfl wr.heap.size 0 (p2.cells (.slice A2 p2.al.length c2)) rfl (by show Value.agg oc2 = _; rw [HOC2.out]) 57 zs HZB.out (peer_cellsOf p2 HP2.out.2.1 _) (by rw [PeerM.cells_length HP2.out.2.1, HZL.out]; decide) (peer_one p2 A2 _ c2) ?_; intro w2 hb2 hg2))
                  rw [setL_all zs _ (by rw [PeerM.cells_length HP2.out.2.1, HZL.out])] at hb2
                  have hbl2 : Below wr.heap.size wr w2 := ((Below.refl _ _).alloc (Nat.le_refl _) _).grown hg2 (by simp) (by intro k hk; injection hk with hk; omega)
                  have HBK2 := Lib.hid hb2
                  have HW2 := Lib.hid (HB.out.trans (hbl2.mono HB.out.size))
                  have hri := refRight_any p2 A2 c2 HP2.out.2.1 (by have := HP2.out.2.2; omega) w2 ((HPF2.out.1.below (HB0.out.trans (HW2.out.mono HB0.out.size))).mono (HB0.out.trans (HW2.out.mono HB0.out.size)).size |> fun h => ⟨h, HPF2.out.2⟩)
                  rw [HOC2.out] at hri
                  obtain ⟨y, hy⟩ : ∃ y, rightP p2 = y := ⟨_, rfl⟩
                  rw [hy] at hri
                  have HRI := Lib.hid hri
                  have HY := Lib.hid hy
                  have HBW2 := Lib.hid (HBW.out.trans (hbl2.mono HBW.out.size))
                  generalize wr.heap.size = g2 at HBK2 ⊢
                  clear hb2 hg2 hbl2 HZB HAT2 hri hy HB HBW
                  go_wp2_with ((with_reducible refine at_op (.load 57 (.tmp 7)) rfl ?_); refine wpList_load_obj rfl 57 (.tmp 7) rfl g2 0 rfl _ HBK2.out.all _ Tryz.underlying57 rfl (peer_cellsOf p2 HP2.out.2.1 _) ?_; rw [HOC2.out])
                  refine HRI.out.mono ?_
                  rintro e w3 ⟨rfl, hb3⟩
                  have HW3 := Lib.hid (HW2.out.trans (hb3.mono HW2.out.size))
                  have HBW3 := Lib.hid (HBW2.out.trans (hb3.mono HBW2.out.size))
                  clear hb3 HRI
                  cases y with
                  | false =>
                    have HV := Lib.hid (show validE x = 1 from by
                      rw [HVD.out, if_pos (List.all_eq_false.2 ⟨p2, List.mem_of_getElem? HP2.out.1, by rw [HY.out]; simp⟩)])
                    go_wp2_with fail
                    go_ret
                    exact ⟨by rw [HV.out]; rfl, HB0.out.trans (HW3.out.mono HB0.out.size)⟩
                  | true =>
                    obtain ⟨k2, hk2⟩ : ∃ z, k + 1 = z := ⟨_, rfl⟩
                    have e8 : (k : Int) + 1 = (k2 : Int) := by omega
                    have w8' : IntKind.i64.wrap (k2 : Int) = (k2 : Int) := by have := HJ8.out; rw [IntKind.wrap_i64]; omega
                    have HK2 := Lib.hid (show k2 ≤ j ∧ j - k2 < j - k ∧ k2 = k + 1 from by omega)
                    clear hk2 hk hkn d1
                    go_wp2_with fail
                    go_roundw
                    case rel => exact ⟨k2, HK2.out.1, rfl, fun i z hi hz => by
                      rcases Nat.lt_or_ge i k with h | h
                      · exact HNO.out i z h hz
                      · obtain rfl : i = k := by have := HK2.out.2.2; omega
                        rw [HP2.out.1] at hz
                        injection hz with hz
                        rw [← hz]; exact HY.out, HBW3.out⟩
                    case measure => simp [intOf]; exact HK2.out.2.1
                · obtain rfl : k = j := by omega
                  have d1 : decide ((k : Int) < (k : Int)) = false := by simp
                  replace HVD := Lib.hid (show validE x = if repM eqK (x.peers.map PeerM.pub) = true ∨ repM eqP (allP x) = true then 19 else 0 from by
                    rw [HVD.out, if_neg]
                    rw [Bool.not_eq_false, List.all_eq_true]
                    intro z hz
                    obtain ⟨i, hi, rfl⟩ := List.getElem_of_mem hz
                    exact HNO.out i _ (by have := HLN.out; omega) (List.getElem?_eq_getElem hi))
                  have fo := conf_peersA (HAT.out _ HB.out) HC.out
                  go_upto_region 17 with fail
                  clear d1
                  obtain ⟨w6, rfl⟩ : ∃ z, z = wr := ⟨wr, rfl⟩
                  have HB6 := Lib.hid HB.out
                  have HO6 := Lib.hid (own_below HO5.out HBW.out)
                  clear HB HBW HNO hk hkn HO5
                  go_wp2_with fail
                  clear fo
                  go_loopw [59] (fun i wr => ∃ j : Nat, j ≤ k ∧ i = .int .i64 (j : Int) ∧ (∀ q r a b, q < j → r < q → x.peers[q]? = some a → x.peers[r]? = some b → eqK a.pub b.pub = false) ∧ Below w6.heap.size w6 wr) (fun i _ => k - (intOf i).toNat)
                  case atStart => exact ⟨0, Nat.zero_le _, rfl, fun q r a b h => absurd h (Nat.not_lt_zero _), Below.refl _ _⟩
                  case round =>
                    obtain ⟨j, hj, rfl, hno, hb⟩ := hrel
                    have HNO := Lib.hid hno
                    have HB := Lib.hid (HB6.out.trans (hb.mono HB6.out.size))
                    have HBW := Lib.hid hb
                    clear hno hb
                    by_cases hjn : j < k
                    · have d1 : decide ((j : Int) < (k : Int)) = true := by simp; omega
                      obtain ⟨b, off, rfl⟩ := HR.out.addr (by omega)
                      obtain ⟨p3, hp⟩ : ∃ p, x.peers[j]? = some p := ⟨x.peers[j]'(by rw [HLN.out]; omega), List.getElem?_eq_getElem _⟩
                      obtain ⟨hpk, A3, c3, hcc, hcm, hpf, hbl, hat⟩ := HR.out.at j p3 hp
                      have HP3 := Lib.hid (And.intro hp (And.intro hpk (HA.out p3 (List.mem_of_getElem? hp))))
                      have HPF3 := Lib.hid hpf
                      have HAT3 := Lib.hid (show At wr b (off + j * 85) (p3.cells (.slice A3 p3.al.length c3)) from fun q v hv => (World.cell?_of_block ((HB0.out.trans (HB.out.mono HB0.out.size)).block b hbl)).trans (hat q v hv))
                      obtain ⟨oc3, hoc⟩ : ∃ z, (p3.cells (.slice A3 p3.al.length c3)).toArray = z := ⟨_, rfl⟩
                      have HOC3 := Lib.hid hoc
                      obtain ⟨zs, hzs⟩ : ∃ z, (#[.int .u8 0, .int .u8 0, .int .u8 0, .int .u8 0, .int .u8 0, .int .u8 0, .int .u8 0, .int .u8 0, .int .u8 0, .int .u8 0, .int .u8 0, .int .u8 0, .int .u8 0, .int .u8 0, .int .u8 0, .int .u8 0, .int .u8 0, .int .u8 0, .int .u8 0, .int .u8 0, .int .u8 0, .int .u8 0, .int .u8 0, .int .u8 0, .int .u8 0, .int .u8 0, .int .u8 0, .int .u8 0, .int .u8 0, .int .u8 0, .int .u8 0, .int .u8 0, .int .u8 0, .int .u8 0, .int .u8 0, .int .u8 0, .int .u8 0, .int .u8 0, .int .u8 0, .int .u8 0, .int .u8 0, .int .u8 0, .int .u8 0, .int .u8 0, .int .u8 0, .int .u8 0, .int .u8 0, .int .u8 0, .int .u8 0, .int .u8 0, .int .u8 0, .int .u8 0, .int .u8 0, .int .u8 0, .int .u8 0, .int .u8 0, .int .u8 0, .int .u8 0, .int .u8 0, .int .u8 0, .int .u8 0, .int .u8 0, .int .u8 0, .int .u8 0, .bool false, .bool false, .int .u8 0, .int .u8 0, .int .u8 0, .int .u8 0, .int .u8 0, .int .u8 0, .int .u8 0, .int .u8 0, .int .u8 0, .int .u8 0, .int .u8 0, .int .u8 0, .int .u8 0, .int .u8 0, .int .u8 0, .int .u8 0, .int .i64 0, .int .i64 0, .slice none 0 0] : Array Value).toList = z := ⟨_, rfl⟩
                      have HZB := Lib.hid (show Blk (wr.alloc (.cells #[.int .u8 0, .int .u8 0, .int .u8 0, .int .u8 0, .int .u8 0, .int .u8 0, .int .u8 0, .int .u8 0, .int .u8 0, .int .u8 0, .int .u8 0, .int .u8 0, .int .u8 0, .int .u8 0, .int .u8 0, .int .u8 0, .int .u8 0, .int .u8 0, .int .u8 0, .int .u8 0, .int .u8 0, .int .u8 0, .int .u8 0, .int .u8 0, .int .u8 0, .int .u8 0, .int .u8 0, .int .u8 0, .int .u8 0, .int .u8 0, .int .u8 0, .int .u8 0, .int .u8 0, .int .u8 0, .int .u8 0, .int .u8 0, .int .u8 0, .int .u8 0, .int .u8 0, .int .u8 0, .int .u8 0, .int .u8 0, .int .u8 0, .int .u8 0, .int .u8 0, .int .u8 0, .int .u8 0, .int .u8 0, .int .u8 0, .int .u8 0, .int .u8 0, .int .u8 0, .int .u8 0, .int .u8 0, .int .u8 0, .int .u8 0, .int .u8 0, .int .u8 0, .int .u8 0, .int .u8 0, .int .u8 0, .int .u8 0, .int .u8 0, .int .u8 0, .bool false, .bool false, .int .u8 0, .int .u8 0, .int .u8 0, .int .u8 0, .int .u8 0, .int .u8 0, .int .u8 0, .int .u8 0, .int .u8 0, .int .u8 0, .int .u8 0, .int .u8 0, .int .u8 0, .int .u8 0, .int .u8 0, .int .u8 0, .int .i64 0, .int .i64 0, .slice none 0 0] 57)) wr.heap.size 57 zs from by rw [← hzs]; exact Blk.new wr 57 _)
                      have HZL := Lib.hid (show zs.length = 85 from by rw [← hzs]; rfl)
                      clear hp hpk hpf hbl hat hoc hcc hcm hzs
                      go_upto_region 20 with (first | ((with_reducible refine at_op (.load 57 (.tmp 62)) rfl ?_); refine wpList_load_obj rfl 57 (.tmp 62) rfl b _ rfl _ HAT3.out _ Tryz.underlying57 rfl (peer_cellsOf p3 HP3.out.2.1 _) ?_; rw [HOC3.out]) | ((with_reducible refine at_op (.store 57 (.tmp 9) (.tmp 63)) rfl ?_); refine wpList_store_obj rfl 57 (.tmp 9) (.tmp 63) rfl wr.heap.size 0 (p3.cells (.slice A3 p3.al.length c3)) rfl (by show Value.agg oc3 = _; rw [HOC3.out]) 57 zs HZB.out (peer_cellsOf p3 HP3.out.2.1 _) (by rw [PeerM.cells_length HP3.out.2.1, HZL.out]; decide) (peer_one p3 A3 _ c3) ?_; intro w2 hb2 hg2))
                      rw [setL_all zs _ (by rw [PeerM.cells_length HP3.out.2.1, HZL.out])] at hb2
                      have hbl2 : Below wr.heap.size wr w2 := ((Below.refl _ _).alloc (Nat.le_refl _) _).grown hg2 (by simp) (by intro k hk; injection hk with hk; omega)
                      have HBK3 := Lib.hid hb2
                      have HW3 := Lib.hid (HB.out.trans (hbl2.mono HB.out.size))
                      have HBW2 := Lib.hid (HBW.out.trans (hbl2.mono HBW.out.size))
                      have HSL := Lib.hid (pes_h (n := k) (some ⟨b, off, none⟩) cap j (by omega) HN.out.2)
                      rw [addrK_zero] at HSL
                      have fo := conf_peersA (HAT.out _ HW3.out) HC.out
                      have HJK := Lib.hid (show j < k from hjn)
                      generalize wr.heap.size = g3 at HBK3 ⊢
                      clear hb2 hg2 hbl2 HZB HZL HAT3 HB HBW
                      obtain ⟨w7, rfl⟩ : ∃ z, z = w2 := ⟨w2, rfl⟩
                      have hsl := HSL.out
                      have hjc : j ≤ k := by omega
                      go_wp2_with fail
                      clear fo hsl d1 HSL
                      go_loopw [69] (fun i wr => ∃ q : Nat, q ≤ j ∧ i = .int .i64 (q : Int) ∧ (∀ r b, r < q → x.peers[r]? = some b → eqK p3.pub b.pub = false) ∧ Below w7.heap.size w7 wr) (fun i _ => j - (intOf i).toNat)
                      case atStart => exact ⟨0, Nat.zero_le _, rfl, fun r b h => absurd h (Nat.not_lt_zero _), Below.refl _ _⟩
                      case round =>
                        obtain ⟨q, hq, rfl, hno2, hb⟩ := hrel
                        have HNO2 := Lib.hid hno2
                        have HB := Lib.hid (HW3.out.trans (hb.mono HW3.out.size))
                        have HBV := Lib.hid hb
                        clear hno2 hb
                        by_cases hqj : q < j
                        · have d1 : decide ((q : Int) < (j : Int)) = true := by simp; omega
                          obtain ⟨p4, hp⟩ : ∃ p, x.peers[q]? = some p := ⟨x.peers[q]'(by rw [HLN.out]; omega), List.getElem?_eq_getElem _⟩
                          obtain ⟨hpk, A4, c4, hcc, hcm, hpf, hbl, hat⟩ := HR.out.at q p4 hp
                          have HP4 := Lib.hid (And.intro hp (And.intro hpk (HA.out p4 (List.mem_of_getElem? hp))))
                          have HPF4 := Lib.hid hpf
                          have HAT4 := Lib.hid (show At wr b (off + q * 85) (p4.cells (.slice A4 p4.al.length c4)) from fun q v hv => (World.cell?_of_block ((HB0.out.trans (HB.out.mono HB0.out.size)).block b hbl)).trans (hat q v hv))
                          obtain ⟨oc4, hoc⟩ : ∃ z, (p4.cells (.slice A4 p4.al.length c4)).toArray = z := ⟨_, rfl⟩
                          have HOC4 := Lib.hid hoc
                          obtain ⟨zs, hzs⟩ : ∃ z, (#[.int .u8 0, .int .u8 0, .int .u8 0, .int .u8 0, .int .u8 0, .int .u8 0, .int .u8 0, .int .u8 0, .int .u8 0, .int .u8 0, .int .u8 0, .int .u8 0, .int .u8 0, .int .u8 0, .int .u8 0, .int .u8 0, .int .u8 0, .int .u8 0, .int .u8 0, .int .u8 0, .int .u8 0, .int .u8 0, .int .u8 0, .int .u8 0, .int .u8 0, .int .u8 0, .int .u8 0, .int .u8 0, .int .u8 0, .int .u8 0, .int .u8 0, .int .u8 0, .int .u8 0, .int .u8 0, .int .u8 0, .int .u8 0, .int .u8 0, .int .u8 0, .int .u8 0, .int .u8 0, .int .u8 0, .int .u8 0, .int .u8 0, .int .u8 0, .int .u8 0, .int .u8 0, .int .u8 0, .int .u8 0, .int .u8 0, .int .u8 0, .int .u8 0, .int .u8 0, .int .u8 0, .int .u8 0, .int .u8 0, .int .u8 0, .int .u8 0, .int .u8 0, .int .u8 0, .int .u8 0, .int .u8 0, .int .u8 0, .int .u8 0, .int .u8 0, .bool false, .bool false, .int .u8 0, .int .u8 0, .int .u8 0, .int .u8 0, .int .u8 0, .int .u8 0, .int .u8 0, .int .u8 0, .int .u8 0, .int .u8 0, .int .u8 0, .int .u8 0, .int .u8 0, .int .u8 0, .int .u8 0, .int .u8 0, .int .i64 0, .int .i64 0, .slice none 0 0] : Array Value).toList = z := ⟨_, rfl⟩
                          have HZB := Lib.hid (show Blk (wr.alloc (.cells #[.int .u8 0, .int .u8 0, .int .u8 0, .int .u8 0, .int .u8 0, .int .u8 0, .int .u8 0, .int .u8 0, .int .u8 0, .int .u8 0, .int .u8 0, .int .u8 0, .int .u8 0, .int .u8 0, .int .u8 0, .int .u8 0, .int .u8 0, .int .u8 0, .int .u8 0, .int .u8 0, .int .u8 0, .int .u8 0, .int .u8 0, .int .u8 0, .int .u8 0, .int .u8 0, .int .u8 0, .int .u8 0, .int .u8 0, .int .u8 0, .int .u8 0, .int .u8 0, .int .u8 0, .int .u8 0, .int .u8 0, .int .u8 0, .int .u8 0, .int .u8 0, .int .u8 0, .int .u8 0, .int .u8 0, .int .u8 0, .int .u8 0, .int .u8 0, .int .u8 0, .int .u8 0, .int .u8 0, .int .u8 0, .int .u8 0, .int .u8 0, .int .u8 0, .int .u8 0, .int .u8 0, .int .u8 0, .int .u8 0, .int .u8 0, .int .u8 0, .int .u8 0, .int .u8 0, .int .u8 0, .int .u8 0, .int .u8 0, .int .u8 0, .int .u8 0, .bool false, .bool false, .int .u8 0, .int .u8 0, .int .u8 0, .int .u8 0, .int .u8 0, .int .u8 0, .int .u8 0, .int .u8 0, .int .u8 0, .int .u8 0, .int .u8 0, .int .u8 0, .int .u8 0, .int .u8 0, .int .u8 0, .int .u8 0, .int .i64 0, .int .i64 0, .slice none 0 0] 57)) wr.heap.size 57 zs from by rw [← hzs]; exact Blk.new wr 57 _)
                          have HZL := Lib.hid (show zs.length = 85 from by rw [← hzs]; rfl)
                          clear hp hpk hpf hbl hat hoc hcc hcm hzs
                          go_upto_region 23 with (first | ((with_reducible refine at_op (.load 57 (.tmp 71)) rfl ?_); refine wpList_load_obj rfl 57 (.tmp 71) rfl b _ rfl _ HAT4.out _ Tryz.underlying57 rfl (peer_cellsOf p4 HP4.out.2.1 _) ?_; rw [HOC4.out]) | ((with_reducible refine at_op (.store 57 (.tmp 11) (.tmp 72)) rfl ?_); refine wpList_store_obj rfl 57 (.tmp 11) (.tmp 72) rfl wr.heap.size 0 (p4.cells (.slice A4 p4.al.length c4)) rfl (by show Value.agg oc4 = _; rw [HOC4.out]) 57 zs HZB.out (peer_cellsOf p4 HP4.out.2.1 _) (by rw [PeerM.cells_length HP4.out.2.1, HZL.out]; decide) (peer_one p4 A4 _ c4) ?_; intro w2 hb2 hg2))
                          rw [setL_all zs _ (by rw [PeerM.cells_length HP4.out.2.1, HZL.out])] at hb2
                          have hbl2 : Below wr.heap.size wr w2 := ((Below.refl _ _).alloc (Nat.le_refl _) _).grown hg2 (by simp) (by intro k hk; injection hk with hk; omega)
                          have HBK4 := Lib.hid hb2
                          have HW4 := Lib.hid (HB.out.trans (hbl2.mono HB.out.size))
                          have HBV2 := Lib.hid (HBV.out.trans (hbl2.mono HBV.out.size))
                          have HA3 := Lib.hid (HBK3.out.all.mono HBV2.out HBK3.out.lt)
                          have HA4 := Lib.hid hb2.all
                          obtain ⟨y, hy⟩ : ∃ y, eqK p3.pub p4.pub = y := ⟨_, rfl⟩
                          have heq := fun W => key_eq p3.pub p4.pub HP3.out.2.1.1 HP4.out.2.1.1 W
                          rw [show decide (p3.pub = p4.pub) = y from hy] at heq
                          obtain ⟨kc3, hk3⟩ : ∃ z, (p3.pub.map u8v).toArray = z := ⟨_, rfl⟩
                          obtain ⟨kc4, hk4⟩ : ∃ z, (p4.pub.map u8v).toArray = z := ⟨_, rfl⟩
                          rw [hk3, hk4] at heq
                          have HEQ := Lib.hid heq
                          have HK3 := Lib.hid hk3
                          have HK4 := Lib.hid hk4
                          have HY := Lib.hid hy
                          have HQJ := Lib.hid hqj
                          generalize wr.heap.size = g4 at HA4 ⊢
                          clear hb2 hg2 hbl2 HZB HZL HAT4 HB HBV HBK4 heq hk3 hk4 hy
                          go_upto_if 77 with (first | ((with_reducible refine at_op (.load 24 (.tmp 73)) rfl ?_); refine wpList_load_obj rfl 24 (.tmp 73) rfl g3 0 rfl (p3.pub.map u8v) (peer_pubB HA3.out) _ Tryz.underlying24 rfl (key_cellsOf _ HP3.out.2.1.1) ?_; rw [HK3.out]) | ((with_reducible refine at_op (.load 24 (.tmp 75)) rfl ?_); refine wpList_load_obj rfl 24 (.tmp 75) rfl g4 0 rfl (p4.pub.map u8v) (peer_pubB HA4.out) _ Tryz.underlying24 rfl (key_cellsOf _ HP4.out.2.1.1) ?_; rw [HK4.out]) | (refine wpList_eql_agg (by rfl) 24 _ 74 76 rfl kc3 kc4 y rfl rfl key_noguard (HEQ.out _) ?_))
                          cases y with
                          | true =>
                            have HV := Lib.hid (show validE x = 19 from by
                              rw [HVD.out, if_pos (.inl (rep_true (i := j) (q := q) (a := p3.pub) (b := p4.pub) (by rw [List.getElem?_map, HP3.out.1]; rfl) (by rw [List.getElem?_map, HP4.out.1]; rfl) HQJ.out HY.out))])
                            go_wp2_with fail
                            go_ret
                            exact ⟨by rw [HV.out]; rfl, HB0.out.trans (HW4.out.mono HB0.out.size)⟩
                          | false =>
                            obtain ⟨q2, hq2⟩ : ∃ z, q + 1 = z := ⟨_, rfl⟩
                            have e8 : (q : Int) + 1 = (q2 : Int) := by omega
                            have w8' : IntKind.i64.wrap (q2 : Int) = (q2 : Int) := by have := HJ8.out; rw [IntKind.wrap_i64]; omega
                            have HQ2 := Lib.hid (show q2 ≤ j ∧ j - q2 < j - q ∧ q2 = q + 1 from by omega)
                            clear hq2 hq hqj d1 hjn hj hjc
                            go_wp2_with fail
                            go_roundw
                            case rel => exact ⟨q2, HQ2.out.1, rfl, fun r z hr hz => by
                              rcases Nat.lt_or_ge r q with h | h
                              · exact HNO2.out r z h hz
                              · obtain rfl : r = q := by have := HQ2.out.2.2; omega
                                rw [HP4.out.1] at hz
                                injection hz with hz
                                rw [← hz]; exact HY.out, HBV2.out⟩
                            case measure => simp [intOf]; exact HQ2.out.2.1
                        · obtain rfl : q = j := by omega
                          have d1 : decide ((q : Int) < (q : Int)) = false := by simp
                          obtain ⟨j2, hj2⟩ : ∃ z, q + 1 = z := ⟨_, rfl⟩
                          have e8 : (q : Int) + 1 = (j2 : Int) := by omega
                          have w8' : IntKind.i64.wrap (j2 : Int) = (j2 : Int) := by have := HJ8.out; rw [IntKind.wrap_i64]; omega
                          have HJ2 := Lib.hid (show j2 ≤ k ∧ k - j2 < k - q ∧ j2 = q + 1 from by omega)
                          have HBE := Lib.hid (HBW2.out.trans (HBV.out.mono HBW2.out.size))
                          clear hj2 hq hqj hjn hj hjc HB HBV
                          go_wp2_with fail
                          go_roundw
                          case rel => exact ⟨j2, HJ2.out.1, rfl, fun i r a b hi hr ha hb => by
                            rcases Nat.lt_or_ge i q with h | h
                            · exact HNO.out i r a b h hr ha hb
                            · obtain rfl : i = q := by have := HJ2.out.2.2; omega
                              rw [HP3.out.1] at ha
                              injection ha with ha
                              rw [← ha]; exact HNO2.out r b hr hb, HBE.out⟩
                          case measure => simp [intOf]; exact HJ2.out.2.1
                    · obtain rfl : j = k := by omega
                      have d1 : decide ((j : Int) < (j : Int)) = false := by simp
                      replace HVD := Lib.hid (show validE x = if repM eqP (allP x) = true then 19 else 0 from by
                        have h0 : repM eqK (x.peers.map PeerM.pub) = false := rep_false fun i q a b hqi hia hqb => by
                          rw [List.getElem?_map] at hia hqb
                          cases h1 : x.peers[i]? with
                          | none => rw [h1] at hia; cases hia
                          | some p1 =>
                            cases h2 : x.peers[q]? with
                            | none => rw [h2] at hqb; cases hqb
                            | some p2 =>
                              rw [h1] at hia
                              rw [h2] at hqb
                              injection hia with hia
                              injection hqb with hqb
                              rw [← hia, ← hqb]
                              exact HNO.out i q p1 p2 (by have := (List.getElem?_eq_some_iff.1 h1).1; have := HLN.out; omega) hqi h1 h2
                        rw [HVD.out, h0]
                        simp)
                      go_upto_region 27 with fail
                      clear d1
                      obtain ⟨w8, rfl⟩ : ∃ z, z = wr := ⟨wr, rfl⟩
                      have hown8 := own_below HO6.out HBW.out
                      have HPK := Lib.hid (show ∀ z ∈ allP x, okP z from fun z hz => by
                        obtain ⟨p, hp, hzp⟩ := List.mem_flatMap.1 hz
                        exact (HC.out.2.2 p hp).2.2.2.2.2 z hzp)
                      have HRA := Lib.hid (RdRow.of_own (os := pfsV (allP x)) (by rw [pfsV, List.length_map]; exact HLL.out) (fun o ho => by
                        obtain ⟨z, hz, rfl⟩ := List.mem_map.1 ho
                        exact prefC_length z.1 (HPK.out z hz).1 z.2) hown8)
                      have HB8 := Lib.hid (HB0.out.trans (HB.out.mono HB0.out.size))
                      have hc3 : L ≤ c3 := by
                        obtain ⟨_, _, e, h, _, _⟩ := own_sliceK hown8
                        injection e with _ _ e3
                        omega
                      have HC3 := Lib.hid hc3
                      clear hown8 hc3 HB HBW HNO HO6 hj hjn
                      go_wp2_with fail
                      go_loopw [82] (fun i wr => ∃ j : Nat, j ≤ L ∧ i = .int .i64 (j : Int) ∧ (∀ (q r : Nat) (a b : AddrM × Int), q < j → r < q → (allP x)[q]? = some a → (allP x)[r]? = some b → eqP a b = false) ∧ Below w8.heap.size w8 wr) (fun i _ => L - (intOf i).toNat)
                      case atStart => exact ⟨0, Nat.zero_le _, rfl, fun q r a b h => absurd h (Nat.not_lt_zero _), Below.refl _ _⟩
                      case round =>
                        obtain ⟨i, hi, rfl, hno, hb⟩ := hrel
                        have HNO := Lib.hid hno
                        have HBZ := Lib.hid hb
                        clear hno hb
                        by_cases hil : i < L
                        · have d1 : decide ((i : Int) < (L : Int)) = true := by simp; omega
                          obtain ⟨ba, oa, rfl⟩ := HRA.out.addr (by omega)
                          obtain ⟨z5, hz⟩ : ∃ z, (allP x)[i]? = some z := ⟨(allP x)[i]'(by rw [HLL.out]; omega), List.getElem?_eq_getElem _⟩
                          have hok := HPK.out z5 (List.mem_of_getElem? hz)
                          have hat := HRA.out.at i (prefC z5.1 z5.2) (by rw [pfsV, List.getElem?_map, hz]; rfl)
                          have HAT5 := Lib.hid (hat.2.mono HBZ.out hat.1)
                          have HZ5 := Lib.hid (And.intro hz hok)
                          obtain ⟨oc5, hoc⟩ : ∃ z, (prefC z5.1 z5.2).toArray = z := ⟨_, rfl⟩
                          have HOC5 := Lib.hid hoc
                          have HZB := Lib.hid (show Blk (wr.alloc (.cells (prefC addr0 0).toArray 60)) wr.heap.size 60 (prefC addr0 0) from Blk.new wr 60 (prefC addr0 0))
                          have hal := (Below.refl wr.heap.size wr).alloc (Nat.le_refl _) (.cells (prefC addr0 0).toArray 60)
                          clear hz hok hat hoc
                          go_upto_region 30 with (first | ((with_reducible refine at_op (.load 60 (.tmp 85)) rfl ?_); refine wpList_load_obj rfl 60 (.tmp 85) rfl ba _ rfl _ HAT5.out _ Tryz.underlying60 rfl (pref_cellsOf' z5.1 HZ5.out.2.1 z5.2) ?_; rw [HOC5.out]) | ((with_reducible refine at_op (.store 60 (.tmp 13) (.tmp 86)) rfl ?_); refine wpList_store_obj rfl 60 (.tmp 13) (.tmp 86) rfl wr.heap.size 0 (prefC z5.1 z5.2) rfl (by show Value.agg oc5 = _; rw [HOC5.out]) 60 (prefC addr0 0) HZB.out (pref_cellsOf' z5.1 HZ5.out.2.1 z5.2) (by rw [prefC_length z5.1 HZ5.out.2.1]; decide) (pref_oneR z5.1 z5.2) ?_; intro w2 hb2 hg2))
                          rw [setL_all _ _ (by rw [prefC_length z5.1 HZ5.out.2.1]; rfl)] at hb2
                          have hbl2 : Below wr.heap.size wr w2 := hal.grown hg2 (by simp) (by intro k hk; injection hk with hk; omega)
                          have HBZ5 := Lib.hid (HBZ.out.trans (hbl2.mono HBZ.out.size))
                          have HK5 := Lib.hid hb2
                          have HSL := Lib.hid (ps_h (n := L) (some ⟨ba, oa, none⟩) c3 i (by omega) HC3.out)
                          rw [addrK_zero] at HSL
                          have HIL := Lib.hid hil
                          generalize wr.heap.size = g5 at HK5 ⊢
                          clear hb2 hg2 hbl2 hal HZB HAT5 HBZ
                          obtain ⟨w9, rfl⟩ : ∃ z, z = w2 := ⟨w2, rfl⟩
                          have hsl := HSL.out
                          have hic : i ≤ L := by omega
                          go_wp2_with fail
                          clear hsl d1 HSL
                          go_loopw [91] (fun v wr => ∃ q : Nat, q ≤ i ∧ v = .int .i64 (q : Int) ∧ (∀ (r : Nat) (b : AddrM × Int), r < q → (allP x)[r]? = some b → eqP z5 b = false) ∧ Below w9.heap.size w9 wr) (fun v _ => i - (intOf v).toNat)
                          case atStart => exact ⟨0, Nat.zero_le _, rfl, fun r b h => absurd h (Nat.not_lt_zero _), Below.refl _ _⟩
                          case round =>
                            obtain ⟨q, hq, rfl, hno2, hb⟩ := hrel
                            have HNO2 := Lib.hid hno2
                            have HBZ := Lib.hid (HBZ5.out.trans (hb.mono HBZ5.out.size))
                            have HBV := Lib.hid hb
                            clear hno2 hb
                            by_cases hqj : q < i
                            · have d1 : decide ((q : Int) < (i : Int)) = true := by simp; omega
                              obtain ⟨z6, hz⟩ : ∃ z, (allP x)[q]? = some z := ⟨(allP x)[q]'(by rw [HLL.out]; omega), List.getElem?_eq_getElem _⟩
                              have hok := HPK.out z6 (List.mem_of_getElem? hz)
                              have hat := HRA.out.at q (prefC z6.1 z6.2) (by rw [pfsV, List.getElem?_map, hz]; rfl)
                              have HAT6 := Lib.hid (hat.2.mono HBZ.out hat.1)
                              have HZ6 := Lib.hid (And.intro hz hok)
                              obtain ⟨oc6, hoc⟩ : ∃ z, (prefC z6.1 z6.2).toArray = z := ⟨_, rfl⟩
                              have HOC6 := Lib.hid hoc
                              have HZB := Lib.hid (show Blk (wr.alloc (.cells (prefC addr0 0).toArray 60)) wr.heap.size 60 (prefC addr0 0) from Blk.new wr 60 (prefC addr0 0))
                              have hal := (Below.refl wr.heap.size wr).alloc (Nat.le_refl _) (.cells (prefC addr0 0).toArray 60)
                              clear hz hok hat hoc
                              go_upto_region 33 with (first | ((with_reducible refine at_op (.load 60 (.tmp 93)) rfl ?_); refine wpList_load_obj rfl 60 (.tmp 93) rfl ba _ rfl _ HAT6.out _ Tryz.underlying60 rfl (pref_cellsOf' z6.1 HZ6.out.2.1 z6.2) ?_; rw [HOC6.out]) | ((with_reducible refine at_op (.store 60 (.tmp 15) (.tmp 94)) rfl ?_); refine wpList_store_obj rfl 60 (.tmp 15) (.tmp 94) rfl wr.heap.size 0 (prefC z6.1 z6.2) rfl (by show Value.agg oc6 = _; rw [HOC6.out]) 60 (prefC addr0 0) HZB.out (pref_cellsOf' z6.1 HZ6.out.2.1 z6.2) (by rw [prefC_length z6.1 HZ6.out.2.1]; decide) (pref_oneR z6.1 z6.2) ?_; intro w2 hb2 hg2))
                              rw [setL_all _ _ (by rw [prefC_length z6.1 HZ6.out.2.1]; rfl)] at hb2
                              have hbl2 : Below wr.heap.size wr w2 := hal.grown hg2 (by simp) (by intro k hk; injection hk with hk; omega)
                              have HBZ6 := Lib.hid (HBZ.out.trans (hbl2.mono HBZ.out.size))
                              have HA5 := Lib.hid (HK5.out.all.mono (HBV.out.trans (hbl2.mono HBV.out.size)) HK5.out.lt)
                              have HBV2 := Lib.hid (HBV.out.trans (hbl2.mono HBV.out.size))
                              have HA6 := Lib.hid hb2.all
                              obtain ⟨y, hy⟩ : ∃ y, eqP z5 z6 = y := ⟨_, rfl⟩
                              have heq := fun W => pref_eqd z5.1 z6.1 z5.2 z6.2 HZ5.out.2.1 HZ6.out.2.1 HZ5.out.2.2 HZ6.out.2.2 W
                              rw [show decide (z5.1 = z6.1 ∧ z5.2 = z6.2) = y from hy, HOC5.out, HOC6.out] at heq
                              have HEQ := Lib.hid heq
                              have HY := Lib.hid hy
                              have HQJ := Lib.hid hqj
                              generalize wr.heap.size = g6 at HA6 ⊢
                              clear hb2 hg2 hbl2 hal HZB HAT6 HBZ HBV heq hy
                              go_upto_if 97 with (first | ((with_reducible refine at_op (.load 60 (.tmp 13)) rfl ?_); refine wpList_load_obj rfl 60 (.tmp 13) rfl g5 0 rfl _ HA5.out _ Tryz.underlying60 rfl (pref_cellsOf' z5.1 HZ5.out.2.1 z5.2) ?_; rw [HOC5.out]) | ((with_reducible refine at_op (.load 60 (.tmp 15)) rfl ?_); refine wpList_load_obj rfl 60 (.tmp 15) rfl g6 0 rfl _ HA6.out _ Tryz.underlying60 rfl (pref_cellsOf' z6.1 HZ6.out.2.1 z6.2) ?_; rw [HOC6.out]) | (refine wpList_eql_agg (by rfl) 60 _ 95 96 rfl oc5 oc6 y rfl rfl prefix_noguard (HEQ.out _) ?_))
                              cases y with
                              | true =>
                                have HV := Lib.hid (show validE x = 19 from by rw [HVD.out, if_pos (rep_true (i := i) (q := q) HZ5.out.1 HZ6.out.1 HQJ.out HY.out)])
                                go_wp2_with fail
                                go_ret
                                exact ⟨by rw [HV.out]; rfl, HB8.out.trans (HBZ6.out.mono HB8.out.size)⟩
                              | false =>
                                obtain ⟨q2, hq2⟩ : ∃ z, q + 1 = z := ⟨_, rfl⟩
                                have e8 : (q : Int) + 1 = (q2 : Int) := by omega
                                have w8' : IntKind.i64.wrap (q2 : Int) = (q2 : Int) := by have := HL16.out; rw [IntKind.wrap_i64]; omega
                                have HQ2 := Lib.hid (show q2 ≤ i ∧ i - q2 < i - q ∧ q2 = q + 1 from by omega)
                                clear hq2 hq hqj d1 hil hi hic
                                go_wp2_with fail
                                go_roundw
                                case rel => exact ⟨q2, HQ2.out.1, rfl, fun r z hr hz => by
                                  rcases Nat.lt_or_ge r q with h | h
                                  · exact HNO2.out r z h hz
                                  · obtain rfl : r = q := by have := HQ2.out.2.2; omega
                                    rw [HZ6.out.1] at hz
                                    injection hz with hz
                                    rw [← hz]; exact HY.out, HBV2.out⟩
                                case measure => simp [intOf]; exact HQ2.out.2.1
                            · obtain rfl : q = i := by omega
                              have d1 : decide ((q : Int) < (q : Int)) = false := by simp
                              obtain ⟨j2, hj2⟩ : ∃ z, q + 1 = z := ⟨_, rfl⟩
                              have e8 : (q : Int) + 1 = (j2 : Int) := by omega
                              have w8' : IntKind.i64.wrap (j2 : Int) = (j2 : Int) := by have := HL16.out; rw [IntKind.wrap_i64]; omega
                              have HJ2 := Lib.hid (show j2 ≤ L ∧ L - j2 < L - q ∧ j2 = q + 1 from by omega)
                              clear hj2 hq hqj hil hi hic HBV
                              go_wp2_with fail
                              go_roundw
                              case rel => exact ⟨j2, HJ2.out.1, rfl, fun i r a b hi hr ha hb => by
                                rcases Nat.lt_or_ge i q with h | h
                                · exact HNO.out i r a b h hr ha hb
                                · obtain rfl : i = q := by have := HJ2.out.2.2; omega
                                  rw [HZ5.out.1] at ha
                                  injection ha with ha
                                  rw [← ha]; exact HNO2.out r b hr hb, HBZ.out⟩
                              case measure => simp [intOf]; exact HJ2.out.2.1
                        · obtain rfl : i = L := by omega
                          have d1 : decide ((i : Int) < (i : Int)) = false := by simp
                          have HV := Lib.hid (show validE x = 0 from by
                            rw [HVD.out, if_neg]
                            rw [rep_false fun i q a b hqi hia hqb => HNO.out i q a b (by have := (List.getElem?_eq_some_iff.1 hia).1; have := HLL.out; omega) hqi hia hqb]
                            simp)
                          go_wp2_with fail
                          go_ret
                          exact ⟨by rw [HV.out]; rfl, HB8.out.trans (HBZ.out.mono HB8.out.size)⟩
end Go.Proofs.YtcbfchkhbngpkaaGreatDoor
namespace Go.Proofs.YtcbfchkhbngpkaaGreatDoor
open Go.RowKit

theorem peers_one {ps : List PeerM} {vs : List Value} (h : ∀ (i : Nat) (p : PeerM) (x : Value), ps[i]? = some p → vs[i]? = some x → ∃ A c, x = .slice A p.al.length c) (hl : vs.length = ps.length) : ∀ u ∈ (peersV ps vs).flatten, u.oneCell' = true := by
  intro u hu
  obtain ⟨o, ho, huo⟩ := List.mem_flatten.1 hu
  obtain ⟨i, hi, rfl⟩ := List.getElem_of_mem ho
  rw [peersV_len ps vs hl] at hi
  have h1 := List.getElem?_eq_getElem hi
  have h2 : vs[i]? = some vs[i] := List.getElem?_eq_getElem (by omega)
  have e := peersV_at h1 h2
  rw [List.getElem?_eq_getElem (by rw [peersV_len ps vs hl]; exact hi)] at e
  injection e with e
  rw [e] at huo
  obtain ⟨A, c, e2⟩ := h i _ _ h1 h2
  rw [e2] at huo
  exact peer_one _ _ _ _ u huo
set_option maxRecDepth 100000 in
set_option maxHeartbeats 8000000 in
theorem cut_any (x : ConfM) (A : Option Addr) (n cap : Nat) (B : Nat) (no : List Nat) (w : World) (hB : B ≤ w.heap.size) (hno : ∀ k ∈ no, B ≤ k) (hc : x.ok) (hr : PeRd w B A n x.peers) (hcap : n ≤ cap) :
    Calls Tryz.prog 8 #[.agg (x.cells (.slice A n cap)).toArray] w fun e w' => ∃ (y : ConfM) (v : Value), e = .returned (.agg (y.cells v).toArray) ∧ y.ok ∧ y.peers.length ≤ 10 ∧ (∀ p ∈ y.peers, p.al.length ≤ 6) ∧ y.priv = x.priv ∧ y.port = x.port ∧ RowOk w.heap.size no w' v y.peers ∧ Below w.heap.size w w' := by
  obtain ⟨pi, zz, hpi, hpz, hpc, hps, hpb⟩ := peerInfo
  have HPI := Lib.hid (And.intro hpi (And.intro hpz (And.intro hpc (And.intro hps hpb))))
  obtain ⟨vs0, hvl, hrow, hok, hpx⟩ := hr
  have hlen : x.peers.length = n := by rw [← hrow.1, peersV_len _ _ hvl]
  have HC := Lib.hid hc
  have HN := Lib.hid (And.intro hB hno)
  have HV := Lib.hid (And.intro hvl (And.intro hok (And.intro hlen hpx)))
  obtain ⟨m, hm⟩ : ∃ m, min n 10 = m := ⟨_, rfl⟩
  have hmin : min (n : Int) 10 = (m : Int) := by omega
  have HM := Lib.hid (show m ≤ n ∧ m ≤ 10 from by omega)
  have HRO := Lib.hid hrow
  have HRW := Lib.hid (hrow.ahead m cap (by omega))
  have HON := Lib.hid (show ∀ u ∈ ((peersV x.peers vs0).take m).flatten, u.oneCell' = true from fun u hu => by
    obtain ⟨o, ho, huo⟩ := List.mem_flatten.1 hu
    exact peers_one (fun i p y hp hy => by obtain ⟨A', c, e, _⟩ := hpx i p y hp hy; exact ⟨A', c, e⟩) hvl u (List.mem_flatten.2 ⟨o, List.mem_of_mem_take ho, huo⟩))
  have HSL := Lib.hid (pes_h (n := n) A cap m (by omega) hcap)
  obtain ⟨zc, hzc⟩ : ∃ z : Array Value, #[.int .u8 0, .int .u8 0, .int .u8 0, .int .u8 0, .int .u8 0, .int .u8 0, .int .u8 0, .int .u8 0, .int .u8 0, .int .u8 0, .int .u8 0, .int .u8 0, .int .u8 0, .int .u8 0, .int .u8 0, .int .u8 0, .int .u8 0, .int .u8 0, .int .u8 0, .int .u8 0, .int .u8 0, .int .u8 0, .int .u8 0, .int .u8 0, .int .u8 0, .int .u8 0, .int .u8 0, .int .u8 0, .int .u8 0, .int .u8 0, .int .u8 0, .int .u8 0, .int .i64 0, .slice none 0 0] = z := ⟨_, rfl⟩
  have HZC := Lib.hid (show zc.toList.length = 34 from by rw [← hzc]; rfl)
  have hcl := conf_at hc (.slice A n cap)
  have hcs34 := ConfM.cells_length hc (.slice A n cap)
  obtain ⟨cs, hcs⟩ : ∃ z, x.cells (.slice A n cap) = z := ⟨_, rfl⟩
  have HCS := Lib.hid hcs
  rw [hcs] at hcl hcs34 ⊢
  obtain ⟨ca, hca⟩ : ∃ z, cs.toArray = z := ⟨_, rfl⟩
  rw [hca]
  have hba := (Below.refl w.heap.size w).alloc (Nat.le_refl _) (.cells ca 27)
  have hbb := hba.alloc (Nat.le_of_lt (by simp)) (.cells zc 27)
  have HB0 := Lib.hid hbb
  have HK1 := Lib.hid (show Blk ((w.alloc (.cells ca 27)).alloc (.cells zc 27)) w.heap.size 27 cs from by
    have h1 : Blk (w.alloc (.cells ca 27)) w.heap.size 27 cs := by rw [← hca]; exact Blk.new w 27 cs
    exact h1.below ((Below.refl _ _).alloc (Nat.le_refl _) _) (by simp))
  have HK2 := Lib.hid (show Blk ((w.alloc (.cells ca 27)).alloc (.cells zc 27)) (w.heap.size + 1) 27 zc.toList from by
    have h1 := Blk.new (w.alloc (.cells ca 27)) 27 zc.toList
    simpa using h1)
  have HS0 := Lib.hid (show ((w.alloc (.cells ca 27)).alloc (.cells zc 27)).heap.size = w.heap.size + 2 from by simp)
  have fx : ((w.alloc (.cells ca 27)).alloc (.cells zc 27)).cell? ⟨w.heap.size, 33, none⟩ = some (.slice A n cap) := by rw [HK1.out.cell]; exact hcl
  clear hB hno hc hrow hok hpx hlen hm hpi hpz hpc hps hpb hvl hba hbb hcs hca
  go_enter Tryz.func8, Tryz.ntmps8
  go_upto_region 1 with fail
  generalize (w.alloc (.cells ca 27)).alloc (.cells zc 27) = w1 at HB0 HK1 HK2 HS0 fx ⊢
  have hsl := HSL.out
  have hm1 : (0 : Nat) + m ≤ maxLen := by have := HM.out; unfold maxLen; omega
  go_upto_region 2 with (first | ((with_reducible refine at_op (.call _) rfl ?_); refine wpList_min_int rfl (.tmp 8) (.const (.int .i64 10)) #[3, 3] rfl (n : Int) 10 (m : Int) rfl rfl hmin ?_) | (refine wpList_append_rows _ rfl (.const (.slice none 0 0)) (.tmp 10) 25 rfl w1.heap.size 57 pi zz 85 136 Tryz.underlying25 HPI.out.1 HPI.out.2.1 HPI.out.2.2.2.1 HPI.out.2.2.2.2 HPI.out.2.2.1 (by omega) (.slice none 0 0) 0 [] rfl (World.ownsRow_nil _ _ _ _) B (addrK A 0 cap 85) m cap ((peersV x.peers vs0).take m) rfl (HRW.out.below (HB0.out.mono HN.out.1)) HON.out hm1 (by have := HM.out; omega) (Nat.le_refl _) ?_; intro v1 w3 hown1 hg1 _; rw [Nat.zero_add, List.nil_append] at hown1; obtain ⟨A5, c5, rfl, hc1, hc2, hlo⟩ := own_sliceK hown1; have hk3 : Blk w3 w.heap.size 27 cs := (by unfold Blk; rw [hg1.block w.heap.size HK1.out.lt (by simp [Value.ownBlock])]; exact HK1.out); have zo := hk3.frozen 33; have fo : w3.cell? ⟨w.heap.size, 33, none⟩ = some (.slice A n cap) := (by rw [hk3.cell]; exact hcl)))
  obtain ⟨g, hg⟩ : ∃ g, w.heap.size = g := ⟨_, rfl⟩
  have hk4 := hk3.set_ 33 (.slice A5 m c5)
  rw [← HCS.out, conf_set_peers HC.out] at hk4
  have hk24 : Blk (w3.setCell ⟨w.heap.size, 33, none⟩ (.slice A5 m c5)) (w.heap.size + 1) 27 zc.toList := by
    have h1 : w3.heap[w.heap.size + 1]? = w1.heap[w.heap.size + 1]? := hg1.block _ HK2.out.lt (by simp [Value.ownBlock])
    unfold Blk
    rw [Below.heap_setCell _ _ _ _ (by simp), h1]
    exact HK2.out
  have hb3 : Below w.heap.size w w3 := HB0.out.grown hg1 (by have := HS0.out; omega) (by simp [Value.ownBlock])
  have hb4 : Below w.heap.size w (w3.setCell ⟨w.heap.size, 33, none⟩ (.slice A5 m c5)) := hb3.setCell (Nat.le_refl _) _
  have hrow4 : RowOk w1.heap.size ((w.heap.size + 1) :: no) (w3.setCell ⟨w.heap.size, 33, none⟩ (.slice A5 m c5)) (.slice A5 m c5) (x.peers.take m) := by
    have hs3 : w1.heap.size ≤ w3.heap.size := hg1.size
    refine RowOk.copied (w := w) (B := B) (n := n) (A := A) ⟨vs0, HV.out.1, HRO.out, HV.out.2.1, HV.out.2.2.2⟩ (by have := HS0.out; have := HN.out.1; omega) (fun k hk => by
      rcases List.mem_cons.1 hk with rfl | hk
      · have := HN.out.1; omega
      · exact HN.out.2 k hk) (hb4.mono HN.out.1) m HM.out.1 (by simpa using hs3) vs0 HV.out.1 HV.out.2.2.2 (own_kept hown1 fun k hk => ?_) HV.out.2.1
    have := (own_lt hown1 hk).1
    have := HS0.out
    exact Below.heap_setCell _ _ _ _ (by simp; omega)
  have fx4 : (w3.setCell ⟨w.heap.size, 33, none⟩ (.slice A5 m c5)).cell? ⟨w.heap.size, 33, none⟩ = some (.slice A5 m c5) := by rw [hk4.cell]; exact conf_at HC.out _
  generalize w3.setCell ⟨w.heap.size, 33, none⟩ (.slice A5 m c5) = w4 at hk4 hk24 hb4 hrow4 fx4 ⊢
  have HS := Lib.hid (And.intro hk4 (And.intro hk24 (And.intro hb4 hrow4)))
  have HG := Lib.hid (show w1.heap.size = w.heap.size + 2 from HS0.out)
  generalize w1.heap.size = b1 at HS HG
  clear hzc fx hsl hm1 hown1 hg1 hlo hc1 hc2 hk3 zo fo hk4 hk24 hb3 hb4 hrow4 hmin hcl hcs34 HK1 HK2 HB0 HS0 HSL HON HRW
  clear hg
  go_wp2_with fail
  clear fx4
  go_loopw [16] (fun i wr => ∃ (j : Nat) (ps : List PeerM), j ≤ m ∧ i = .int .i64 (j : Int) ∧ ps.length = m ∧ RowOk b1 ((w.heap.size + 1) :: no) wr (.slice A5 m c5) ps ∧ (∀ (q : Nat) (p : PeerM), q < j → ps[q]? = some p → p.al.length ≤ 6) ∧ Blk wr w.heap.size 27 (x.cells (.slice A5 m c5)) ∧ Blk wr (w.heap.size + 1) 27 zc.toList ∧ Below w.heap.size w wr) (fun i _ => m - (intOf i).toNat)
  case atStart => exact ⟨0, x.peers.take m, Nat.zero_le _, rfl, by rw [List.length_take, HV.out.2.2.1]; have := HM.out; omega, HS.out.2.2.2, fun _ _ h => absurd h (Nat.not_lt_zero _), HS.out.1, HS.out.2.1, HS.out.2.2.1⟩
  case round =>
    obtain ⟨j, ps, hj, rfl, hpl, hro, hfew, hk1, hk2, hbl⟩ := hrel
    have HBX := Lib.hid (And.intro hk1 (And.intro hk2 hbl))
    have HFW := Lib.hid hfew
    have HPL := Lib.hid hpl
    have hm10 : m ≤ 10 := HM.out.2
    clear hk1 hk2 hbl hfew
    by_cases hjm : j < m
    · have d1 : decide ((j : Int) < (m : Int)) = true := by simp; omega
      rcases hro with ⟨h1, _⟩ | ⟨g5, c6, rest, vs, hv, hat⟩
      · subst h1
        simp at hpl
        omega
      · injection hv with hvA hvn hvc
        subst hvA hvc
        have HA := Lib.hid hat
        obtain ⟨p, hp⟩ : ∃ p, ps[j]? = some p := ⟨ps[j]'(by omega), List.getElem?_eq_getElem _⟩
        obtain ⟨y, hy⟩ : ∃ y, vs[j]? = some y := ⟨vs[j]'(by rw [hat.len]; omega), List.getElem?_eq_getElem _⟩
        have hpo := hat.ok p (List.mem_of_getElem? hp)
        obtain ⟨A7, c7, rfl, hc7, hm7, hpf7, hne7⟩ := hat.pf j p y hp hy
        obtain ⟨k, hk⟩ : ∃ k, min p.al.length 6 = k := ⟨_, rfl⟩
        have HMN := Lib.hid (show min (p.al.length : Int) 6 = (k : Int) ∧ k ≤ p.al.length ∧ k ≤ 6 from by omega)
        have HSL2 := Lib.hid (ps_h (n := p.al.length) A7 c7 k (by omega) hc7)
        have HP := Lib.hid (And.intro hp (And.intro hy hpo))
        have HPF := Lib.hid (show PfO wr (g5 :: (w.heap.size + 1) :: no) p (.slice A7 p.al.length c7) from ⟨A7, c7, rfl, hc7, hm7, hpf7, hne7⟩)
        have HLE := Lib.hid (And.intro hat.le hat.low)
        clear hat hp hy hpo hc7 hm7 hpf7 hne7 hk hvn hpl
        go_upto_region 5 with fail
        refine wp_region_held_drew (S := fun W' => Blk W' w.heap.size 27 (x.cells (.slice (some ⟨g5, 0, none⟩) m c5)) ∧ Blk W' (w.heap.size + 1) 27 zc.toList ∧ Below w.heap.size w W') (by kernel_rfl) (⟨HBX.out.1, HBX.out.2.1, HBX.out.2.2.drew⟩) (fun hHeld => ?_)
        have HA2 := Lib.hid (HA.out.below ((Below.refl _ _).drew))
        have HB2 := Lib.hid (show Blk wr.drew w.heap.size 27 (x.cells (.slice (some ⟨g5, 0, none⟩) m c5)) ∧ Blk wr.drew (w.heap.size + 1) 27 zc.toList ∧ Below w.heap.size w wr.drew from ⟨HBX.out.1, HBX.out.2.1, HBX.out.2.2.drew⟩)
        have HPF2 := Lib.hid (HPF.out.below ((Below.refl _ _).drew))
        generalize wr.drew = wd at HA2 HB2 HPF2 hHeld ⊢
        refine take_first (v := ?_) 0 rfl (by kernel_rfl) (by kernel_rfl) (by kernel_rfl) (fun _ _ _ h => h) (Or.inl ⟨by rfl, ?_⟩) (by assumption) ?_
        rotate_left
        · (intro w hSw; (try dsimp only at hSw); go_simp; try with_reducible rfl)
        (try simp only [Act.put, List.setIfInBounds_toArray, List.set_cons_zero, List.set_cons_succ])
        refine take_first (v := ?_) 1 rfl (by kernel_rfl) (by kernel_rfl) (by kernel_rfl) (fun _ _ _ h => h) (Or.inl ⟨by rfl, ?_⟩) (by assumption) ?_
        rotate_left
        · (intro w hSw; (try dsimp only at hSw); have fx := hSw.1.cell 33; rw [conf_at HC.out _] at fx; go_simp; try with_reducible rfl)
        (try simp only [Act.put, List.setIfInBounds_toArray, List.set_cons_zero, List.set_cons_succ])
        refine take_first (v := ?_) 2 rfl (by kernel_rfl) (by kernel_rfl) (by kernel_rfl) (fun _ _ _ h => h) (Or.inl ⟨by rfl, ?_⟩) (by assumption) ?_
        rotate_left
        · (intro w hSw; (try dsimp only at hSw); go_simp; try with_reducible rfl)
        (try simp only [Act.put, List.setIfInBounds_toArray, List.set_cons_zero, List.set_cons_succ])
        refine take_first (v := ?_) 3 rfl (by kernel_rfl) (by kernel_rfl) (by kernel_rfl) (fun _ _ _ h => h) (Or.inl ⟨by rfl, ?_⟩) (by assumption) ?_
        rotate_left
        · (intro w hSw; (try dsimp only at hSw); go_simp; try with_reducible rfl)
        (try simp only [Act.put, List.setIfInBounds_toArray, List.set_cons_zero, List.set_cons_succ])
        refine take_first (v := ?_) 4 rfl (by kernel_rfl) (by kernel_rfl) (by kernel_rfl) (fun _ _ _ h => h) (Or.inl ⟨by rfl, ?_⟩) (by assumption) ?_
        rotate_left
        · (intro w hSw; (try dsimp only at hSw); have fx := hSw.1.cell 33; rw [conf_at HC.out _] at fx; go_simp; try with_reducible rfl)
        (try simp only [Act.put, List.setIfInBounds_toArray, List.set_cons_zero, List.set_cons_succ])
        refine take_first (v := ?_) 5 rfl (by kernel_rfl) (by kernel_rfl) (by kernel_rfl) (fun _ _ _ h => h) (Or.inl ⟨by rfl, ?_⟩) (by assumption) ?_
        rotate_left
        · (intro w hSw; (try dsimp only at hSw); go_simp; try with_reducible rfl)
        (try simp only [Act.put, List.setIfInBounds_toArray, List.set_cons_zero, List.set_cons_succ])
        refine take_first (v := ?_) 6 rfl (by kernel_rfl) (by kernel_rfl) (by kernel_rfl) (fun _ _ _ h => h) (Or.inl ⟨by rfl, ?_⟩) (by assumption) ?_
        rotate_left
        · (intro w hSw; (try dsimp only at hSw); go_simp; try with_reducible rfl)
        (try simp only [Act.put, List.setIfInBounds_toArray, List.set_cons_zero, List.set_cons_succ])
        refine take_first (v := ?_) 7 rfl (by kernel_rfl) (by kernel_rfl) (by kernel_rfl) (fun _ _ _ h => h) (Or.inl ⟨by rfl, ?_⟩) (by assumption) ?_
        rotate_left
        · (intro w hSw; (try dsimp only at hSw); go_simp; try with_reducible rfl)
        (try simp only [Act.put, List.setIfInBounds_toArray, List.set_cons_zero, List.set_cons_succ])
        refine take_first (v := ?_) 9 rfl (by kernel_rfl) (by kernel_rfl) (by kernel_rfl) (fun _ _ _ h => h) (Or.inl ⟨by rfl, ?_⟩) (by assumption) ?_
        rotate_left
        · (intro w hSw; (try dsimp only at hSw); go_simp; try with_reducible rfl)
        (try simp only [Act.put, List.setIfInBounds_toArray, List.set_cons_zero, List.set_cons_succ])
        refine take_first (v := ?_) 10 rfl (by kernel_rfl) (by kernel_rfl) (by kernel_rfl) (fun _ _ _ h => h) (Or.inl ⟨by rfl, ?_⟩) (by assumption) ?_
        rotate_left
        · (intro w hSw; (try dsimp only at hSw); have fx := hSw.1.cell 33; rw [conf_at HC.out _] at fx; go_simp; try with_reducible rfl)
        (try simp only [Act.put, List.setIfInBounds_toArray, List.set_cons_zero, List.set_cons_succ])
        refine take_first (v := ?_) 11 rfl (by kernel_rfl) (by kernel_rfl) (by kernel_rfl) (fun _ _ _ h => h) (Or.inl ⟨by rfl, ?_⟩) (by assumption) ?_
        rotate_left
        · (intro w hSw; (try dsimp only at hSw); go_simp; try with_reducible rfl)
        (try simp only [Act.put, List.setIfInBounds_toArray, List.set_cons_zero, List.set_cons_succ])
        refine take_first (v := ?_) 12 rfl (by kernel_rfl) (by kernel_rfl) (by kernel_rfl) (fun _ _ _ h => h) (Or.inl ⟨by rfl, ?_⟩) (by assumption) ?_
        rotate_left
        · (intro w hSw; (try dsimp only at hSw); go_simp; try with_reducible rfl)
        (try simp only [Act.put, List.setIfInBounds_toArray, List.set_cons_zero, List.set_cons_succ])
        refine take_first (v := ?_) 13 rfl (by kernel_rfl) (by kernel_rfl) (by kernel_rfl) (fun _ _ _ h => h) (Or.inl ⟨by rfl, ?_⟩) (by assumption) ?_
        rotate_left
        · (intro w hSw; (try dsimp only at hSw); go_simp; try with_reducible rfl)
        (try simp only [Act.put, List.setIfInBounds_toArray, List.set_cons_zero, List.set_cons_succ])
        refine take_load (v := ?_) [8] 14 rfl (by kernel_rfl) (by kernel_rfl) (by kernel_rfl) (by kernel_rfl) (by kernel_rfl) (fun _ _ _ h => h) (Or.inl ⟨by rfl, ?_⟩) (by assumption) ?_
        rotate_left
        · (intro w hSw; subst hSw; have fo := HA2.out.at HP.out.1 HP.out.2.1 84 _ (peer_at HP.out.2.2 _).2.2; go_simp; try with_reducible rfl)
        (try simp only [Act.put, List.setIfInBounds_toArray, List.set_cons_zero, List.set_cons_succ])
        refine take_first (v := ?_) 15 rfl (by kernel_rfl) (by kernel_rfl) (by kernel_rfl) (fun _ _ _ h => h) (Or.inl ⟨by rfl, ?_⟩) (by assumption) ?_
        rotate_left
        · (intro w hSw; (try dsimp only at hSw); have fy := HMN.out.1; go_simp; try with_reducible rfl)
        (try simp only [Act.put, List.setIfInBounds_toArray, List.set_cons_zero, List.set_cons_succ])
        refine take_first (v := ?_) 16 rfl (by kernel_rfl) (by kernel_rfl) (by kernel_rfl) (fun _ _ _ h => h) (Or.inl ⟨by rfl, ?_⟩) (by assumption) ?_
        rotate_left
        · (intro w hSw; (try dsimp only at hSw); go_simp; try with_reducible rfl)
        (try simp only [Act.put, List.setIfInBounds_toArray, List.set_cons_zero, List.set_cons_succ])
        refine take_load (v := ?_) [] 8 rfl (by kernel_rfl) (by kernel_rfl) (by kernel_rfl) (by kernel_rfl) (by kernel_rfl) (fun _ _ _ h => h) (Or.inl ⟨by rfl, ?_⟩) (by assumption) ?_
        rotate_left
        · (intro w hSw; subst hSw; have fo := HA2.out.at HP.out.1 HP.out.2.1 84 _ (peer_at HP.out.2.2 _).2.2; go_simp; try with_reducible rfl)
        (try simp only [Act.put, List.setIfInBounds_toArray, List.set_cons_zero, List.set_cons_succ])
        refine take_first (v := ?_) 17 rfl (by kernel_rfl) (by kernel_rfl) (by kernel_rfl) (fun _ _ _ h => h) (Or.inl ⟨by rfl, ?_⟩) (by assumption) ?_
        rotate_left
        · (intro w hSw; (try dsimp only at hSw); have fy := HSL2.out; simp only [HMN.out.1]; go_simp; try with_reducible rfl)
        (try simp only [Act.put, List.setIfInBounds_toArray, List.set_cons_zero, List.set_cons_succ])
        refine take_first (v := ?_) 18 rfl (by kernel_rfl) (by kernel_rfl) (by kernel_rfl) (fun _ _ _ h => h) (Or.inl ⟨by rfl, ?_⟩) (by assumption) ?_
        rotate_left
        · (intro w hSw; (try dsimp only at hSw); go_simp; try with_reducible rfl)
        (try simp only [Act.put, List.setIfInBounds_toArray, List.set_cons_zero, List.set_cons_succ])
        refine take_first (v := ?_) 19 rfl (by kernel_rfl) (by kernel_rfl) (by kernel_rfl) (fun _ _ _ h => h) (Or.inl ⟨by rfl, ?_⟩) (by assumption) ?_
        rotate_left
        · (intro w hSw; (try dsimp only at hSw); go_simp; try with_reducible rfl)
        (try simp only [Act.put, List.setIfInBounds_toArray, List.set_cons_zero, List.set_cons_succ])
        refine step_one 20 rfl (by kernel_rfl) (fun K hK => ?_)
        clear hHeld
        have fo := HA2.out.at HP.out.1 HP.out.2.1 84 _ (peer_at HP.out.2.2 _).2.2
        have zo := HA2.out.blk.frozen (j * 85 + 84)
        go_simp
        clear fo zo
        have HA3 := Lib.hid (HA2.out.cell (p' := { p with al := p.al.take k }) (x' := .slice (addrK A7 0 c7 18) k c7) HP.out.1 HP.out.2.1 84 (.slice (addrK A7 0 c7 18) k c7) (by omega) (peer_set_al HP.out.2.2 _ _) ⟨HP.out.2.2.1, HP.out.2.2.2.1, HP.out.2.2.2.2.1, HP.out.2.2.2.2.2.1, HP.out.2.2.2.2.2.2.1, fun q hq => HP.out.2.2.2.2.2.2.2 q (List.mem_of_mem_take hq)⟩ (HPF2.out.ahead k HMN.out.2.1))
        have HB3 := Lib.hid (show Blk (wd.setCell ⟨g5, j * 85 + 84, none⟩ (.slice (addrK A7 0 c7 18) k c7)) w.heap.size 27 (x.cells (.slice (some ⟨g5, 0, none⟩) m c5)) ∧ Blk (wd.setCell ⟨g5, j * 85 + 84, none⟩ (.slice (addrK A7 0 c7 18) k c7)) (w.heap.size + 1) 27 zc.toList ∧ Below w.heap.size w (wd.setCell ⟨g5, j * 85 + 84, none⟩ (.slice (addrK A7 0 c7 18) k c7)) from by
          have h1 := HG.out
          have h2 := HLE.out.2
          refine ⟨?_, ?_, HB2.out.2.2.setCell (by show w.heap.size ≤ g5; omega) _⟩
          · unfold Blk; rw [Below.heap_setCell _ _ _ _ (by show w.heap.size ≠ g5; omega)]; exact HB2.out.1
          · unfold Blk; rw [Below.heap_setCell _ _ _ _ (by show w.heap.size + 1 ≠ g5; omega)]; exact HB2.out.2.1)
        generalize wd.setCell ⟨g5, j * 85 + 84, none⟩ (.slice (addrK A7 0 c7 18) k c7) = w5 at HA3 HB3 ⊢
        refine hK.out _ _ (HB3.out) (fun hHeld => ?_)
        clear hK K
        (try simp only [Act.put])
        refine wpAnyH_done (by kernel_rfl) ?_ _
        clear hHeld
        go_wp2_with fail
        go_roundw
        case rel => exact ⟨j + 1, ps.set j { p with al := p.al.take k }, by omega, by go_num, by rw [List.length_set]; exact HPL.out, .inr ⟨g5, c5, rest, vs.set j (.slice (addrK A7 0 c7 18) k c7), by rw [List.length_set, HPL.out], HA3.out⟩, fun q p2 hq h2 => by
          by_cases hqj : j = q
          · subst hqj
            rw [List.getElem?_set_self (List.getElem?_eq_some_iff.1 HP.out.1).1] at h2
            injection h2 with h2
            subst h2
            have := HMN.out.2.2
            simp only [List.length_take]
            omega
          · rw [List.getElem?_set_ne hqj] at h2
            exact HFW.out q p2 (by omega) h2, HB3.out.1, HB3.out.2.1, HB3.out.2.2⟩
        case measure => simp [intOf]; omega
    · obtain rfl : m = j := by omega
      have d1 : decide ((m : Int) < (m : Int)) = false := by simp
      have HRO2 := Lib.hid hro
      clear hro
      obtain ⟨vs, hvl, _, hok, _⟩ := HRO2.out.own
      have HOK := Lib.hid (show (ConfM.mk x.priv x.port ps).ok from ⟨HC.out.1, HC.out.2.1, hok⟩)
      obtain ⟨cc, hcc⟩ : ∃ z, (x.cells (.slice A5 m c5)).toArray = z := ⟨_, rfl⟩
      have HCC := Lib.hid hcc
      clear hcc hok hvl
      go_wp2_with (first | ((with_reducible refine at_op (.load 27 (.tmp 1)) rfl ?_); refine wpList_load_obj rfl 27 (.tmp 1) rfl w.heap.size 0 rfl _ HBX.out.1.all _ Tryz.underlying27 rfl (conf_cellsOf x HC.out _) ?_; rw [HCC.out]) | ((with_reducible refine at_op (.store 27 (.tmp 2) (.tmp 40)) rfl ?_); refine wpList_store_obj rfl 27 (.tmp 2) (.tmp 40) rfl (w.heap.size + 1) 0 (x.cells (.slice A5 m c5)) (by rfl) (by show Value.agg cc = _; rw [HCC.out]) 27 zc.toList HBX.out.2.1 (conf_cellsOf x HC.out _) (by rw [ConfM.cells_length HC.out, HZC.out]; omega) (conf_one _ _ _ _) ?_; intro w9 hb9 hg9))
      rw [setL_all zc.toList _ (by rw [ConfM.cells_length HC.out, HZC.out])] at hb9
      have hro9 := HRO2.out.other hg9 (List.mem_cons_self ..) (by have := HG.out; omega)
      exact bodyPost_ret (results_obj rfl _ _ (w.heap.size + 1) 27 (x.cells (.slice A5 m c5)) _ rfl hb9 Tryz.underlying27 rfl (conf_cellsOf x HC.out _)) rfl ⟨⟨x.priv, x.port, ps⟩, .slice A5 m c5, rfl, HOK.out, by have := HM.out; have := HPL.out; simp only; omega, fun p hp => by
        obtain ⟨i, hi, rfl⟩ := List.getElem_of_mem hp
        exact HFW.out i _ (by have := HPL.out; simp only at hi; omega) (List.getElem?_eq_getElem hi), rfl, rfl, (hro9.mono (by have := HG.out; omega)).less (fun k hk => List.mem_cons_of_mem _ hk), HBX.out.2.2.grown hg9 (by have := HBX.out.2.2.size; omega) (by intro k hk; injection hk with hk; omega)⟩
end Go.Proofs.YtcbfchkhbngpkaaGreatDoor
namespace Go.Proofs.YtcbfchkhbngpkaaGreatDoor
open Go.RowKit

theorem zeroCells_flat (z : Array Value) (k : Nat) : (Builtin.zeroCells z k).toList = (List.replicate k z.toList).flatten := by
  have hl : (Builtin.zeroCells z k).toList.length = k * z.size := by rw [Array.length_toList]; exact size_zeroCells z k
  have hr : (List.replicate k z.toList).flatten.length = k * z.size := by simp
  refine List.ext_getElem? fun i => ?_
  by_cases hi : i < k * z.size
  · have hz : 0 < z.size := by
      rcases Nat.eq_zero_or_pos z.size with h | h
      · rw [h] at hi; simp at hi
      · exact h
    have hq : i / z.size < k := Nat.div_lt_of_lt_mul (by rw [Nat.mul_comm]; exact hi)
    have hm : i % z.size < z.size := Nat.mod_lt _ hz
    have h1 := flat_at (k := z.size) (os := List.replicate k z.toList) (by intro o ho; rw [List.eq_of_mem_replicate ho]; simp) (i / z.size) z.toList (by rw [List.getElem?_replicate, if_pos hq]) (i % z.size) (z[i % z.size]) (by simp [hm])
    rw [show i / z.size * z.size + i % z.size = i by rw [Nat.mul_comm]; exact Nat.div_add_mod i z.size] at h1
    rw [h1]
    simp [Builtin.zeroCells, hi, hm]
  · rw [List.getElem?_eq_none (by omega), List.getElem?_eq_none (by omega)]
theorem run_append_zerosK {P : Program} (w : World) (base : Nat) (t tn ty e : TypeId) (i : TypeInfo) (z : Value) (sz by_ : Nat) (kq kn : IntKind) (ht : P.underlying t = some (.slice e)) (htn : P.underlying tn = some (.int kn)) (hi : P.info? e = some i) (hz : i.zero = some z) (hsize : i.size = sz) (hzs : z.cells.size = sz) (hsz : 0 < sz) (hby : i.bytes = by_) (hb1 : by_ ≤ 1000) (h1 : ∀ v ∈ z.cells.toList, v.oneCell' = true)
    (g n cap : Nat) (xs : List Value) (hown : w.ownsRow base e sz (.slice (some ⟨g, 0, none⟩) n cap) n xs) (k : Nat) (h63 : n + k ≤ 100000) (hbase : base ≤ w.heap.size) :
    ∃ v' w', (Builtin.append_ #[t, tn] ty #[.slice (some ⟨g, 0, none⟩) n cap, .int kq (k : Int)]).run P w = .ok v' w' ∧ w'.ownsRow base e sz v' (n + k) (xs ++ (List.replicate k z.cells.toList).flatten) ∧ w.grownBy w' (some g) ∧ (v'.ownBlock = some g ∨ v'.ownBlock = some w.heap.size) := by
  have hown' := hown
  have hx1 : xs.length = n * sz := hown.1
  have hrl : (List.replicate k z.cells.toList).flatten.length = k * sz := by simp [hzs]
  rcases hown.2 with ⟨hv, _⟩ | ⟨g', cap', cur, hv, hbg, hg, hnc, hcm, hcs, htake⟩
  · cases hv
  · injection hv with h1' h2 h3
    injection h1' with h1'
    injection h1' with h1'
    subst h1' h3
    have hwk : IntKind.i64.wrap (k : Int) = k := by rw [IntKind.wrap_i64]; omega
    have hneg : ¬ ((k : Int) < 0) := by omega
    have hkb : k * by_ ≤ 100000 * 1000 := Nat.mul_le_mul (by omega) hb1
    have hnb : (n + k) * by_ ≤ 100000 * 1000 := Nat.mul_le_mul h63 hb1
    have h48i : ¬ (281474976710656 < (k : Int) * (by_ : Int)) := by
      rw [show (k : Int) * (by_ : Int) = ((k * by_ : Nat) : Int) by simp]; omega
    by_cases hroom : n + k ≤ cap
    · have hm1 : (n + k) * sz ≤ cap * sz := Nat.mul_le_mul_right sz hroom
      rw [Nat.add_mul] at hm1
      rcases Nat.eq_zero_or_pos k with h0 | h0
      · subst h0
        refine ⟨.slice (some ⟨g, 0, none⟩) n cap, w, ?_, by simpa using hown', World.grownBy.refl w _, .inl rfl⟩
        simp [Builtin.append_, run_underlying ht, run_underlying htn, sizeOf, typeInfo, hi, hby, asInt, asIntOf, hnc, storeCells, IntKind.wrap_i64]
      · have hst := run_storeCells_at P g (n * sz) e (List.replicate k z.cells.toList).flatten 0 cur w hg (by rw [hrl]; omega) (by
          intro v hv
          obtain ⟨o, ho, hvo⟩ := List.mem_flatten.1 hv
          rw [List.eq_of_mem_replicate ho] at hvo
          exact h1 v hvo)
        have hns : k ≠ 0 := by omega
        have hzc := zeroCells_flat z.cells k
        refine ⟨_, w.setRow g (cur.toList.take (n * sz) ++ (List.replicate k z.cells.toList).flatten ++ cur.toList.drop (n * sz + k * sz)).toArray, ?_, ⟨?_, .inr ⟨g, cap, _, rfl, hbg, setRow_heap w g cur _ e _ hg, hroom, hcm, ?_, ?_⟩⟩, ⟨rfl, rfl, rfl, by simp, fun q _ hq => ?_⟩, .inl rfl⟩
        · simp only [Nat.add_zero, hrl] at hst
          simp [Builtin.append_, run_underlying ht, run_underlying htn, sizeOf, typeInfo, zeroValue, hi, hz, hsize, hby, asInt, asIntOf, hwk, hneg, h48i, hroom, hzc, Addr.add_lit, hst]
          intro h
          have := Nat.mul_pos h0 hsz
          omega
        · rw [List.length_append, hrl, hx1, Nat.add_mul]
        · simp only [List.size_toArray, List.length_append, List.length_take, List.length_drop, hrl, Array.length_toList]
          omega
        · rw [htake, Nat.add_mul]
          exact List.take_left' (by rw [List.length_append, hrl, hx1])
        · exact setRow_other w g q _ (fun e => hq (by simp [e]))
    · have hk0 : 0 < k := by omega
      have holds : ∀ j u, xs[j]? = some u → w.drew.cell? ((⟨g, 0, none⟩ : Addr).add j) = some u := hown'.cells (g := g) rfl
      have hold := run_firstCells_some (P := P) w.drew i.size n ⟨g, 0, none⟩ n cap xs (by rw [hsize]; exact hx1) holds
      have hr := Lib.run_append_grow_zeros (P := P) w t tn ty e i z kq kn ht htn hi hz (some ⟨g, 0, none⟩) n cap xs hold k hk0 (by omega) (by omega) (by omega) (by rw [hby]; omega) (growslice_fits (by omega) (by rw [hby]; omega))
      have hge := grownCap_ge w (n + k) cap e
      have hcm2 : grownCap w (n + k) cap e ≤ maxLen := grownCap_le_maxLen w (n + k) cap e (by unfold maxLen; omega)
      refine ⟨_, _, hr, ⟨?_, .inr ⟨w.heap.size, _, _, rfl, hbase, heap_alloc_new w.drew _, hge, hcm2, ?_, ?_⟩⟩, ⟨rfl, rfl, rfl, by simp, fun q hq _ => heap_alloc_old w.drew _ hq⟩, .inr rfl⟩
      · rw [List.length_append, hrl, hx1, Nat.add_mul]
      · simp only [Array.size_append, List.size_toArray, size_zeroCells, hzs, hx1, ← Nat.add_mul]
        congr 1
        omega
      · simp only [Array.toList_append, zeroCells_flat, List.append_assoc]
        rw [← List.append_assoc]
        exact List.take_left' (by rw [List.length_append, hrl, hx1, Nat.add_mul])
theorem wpList_append_zerosK {P : Program} (w : World) {ops : Array Oper} {rest : List Oper} {o : Oper} {a : Act} {Q : Exit → Act → World → Prop} (hgd : o.guard = none) (s x : Operand) (t tn : TypeId)
    (ho : o.op = .call { callee := .builtin .append, args := #[s, x], argTypes := #[t, tn] })
    (base : Nat) (e : TypeId) (i : TypeInfo) (z : Value) (sz by_ : Nat) (kq kn : IntKind) (ht : P.underlying t = some (.slice e)) (htn : P.underlying tn = some (.int kn)) (hi : P.info? e = some i) (hz : i.zero = some z) (hsize : i.size = sz) (hzs : z.cells.size = sz) (hsz : 0 < sz) (hby : i.bytes = by_) (hb1 : by_ ≤ 1000) (h1 : ∀ v ∈ z.cells.toList, v.oneCell' = true)
    (g n cap : Nat) (xs : List Value) (hs : a.eval s = .slice (some ⟨g, 0, none⟩) n cap) (hown : w.ownsRow base e sz (.slice (some ⟨g, 0, none⟩) n cap) n xs) (k : Nat) (hx : a.eval x = .int kq (k : Int)) (h63 : n + k ≤ 100000) (hbase : base ≤ w.heap.size)
    (h : ∀ v' w', w'.ownsRow base e sz v' (n + k) (xs ++ (List.replicate k z.cells.toList).flatten) → w.grownBy w' (some g) → (v'.ownBlock = some g ∨ v'.ownBlock = some w.heap.size) → wpList P ops Q rest (a.put o.dst v') w') : wpList P ops Q (o :: rest) a w := by
  refine wpList_plain hgd fun K hK => ?_
  obtain ⟨v', w', hrun, h2, h3, h4⟩ := run_append_zerosK (P := P) w base t tn o.type e i z sz by_ kq kn ht htn hi hz hsize hzs hsz hby hb1 h1 g n cap xs hown k h63 hbase
  unfold Oper.wp execOp
  simp only [ho, resolve, invoke, builtin, Sem.run_bind, Sem.run_pure, Result.andThen_ok, List.map_toArray, List.map_cons, List.map_nil, hs, hx, hrun]
  exact hK _ _ (h v' w' h2 h3 h4)
end Go.Proofs.YtcbfchkhbngpkaaGreatDoor
