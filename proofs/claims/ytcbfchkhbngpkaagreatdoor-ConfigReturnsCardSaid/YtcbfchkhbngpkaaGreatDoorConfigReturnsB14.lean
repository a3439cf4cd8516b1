/-
  The contract of config's Parse on texts that it accepts, and on those that are too long. The text of ConfigLimits as Parse reads it. The text of a configuration with spaces, tabs, comments and empty lines added: what the lines stand for is what it was. No function of the program is named here. The text of a valid configuration stands for it, also with what is added. No function of the program is named here. The bounds of what is read: a text of at most 4000 bytes gives few peers and few prefixes. The
  text of a small configuration is short. No statement is proved here.
-/
import Derived.Defers
import Derived.Recover
import Derived.RegionTactic
import Derived.Deep.DeepCutAuto
import Derived.Test.YtcbfchkhbngpkaaGreatDoorConfigReturnsB13
namespace Go.Proofs.YtcbfchkhbngpkaaGreatDoor
open Go.RowKit

theorem closure_idle (a b c d : Value) (w : World) :
    CallsD Tryz.prog 41 #[a, b, c, d] .returning w fun e u' w' => e = .returned (.tuple #[]) ∧ u' = .returning ∧ w' = w := by
  refine callsD_of_wpS Tryz.func41 rfl fun c₀ cs hu => ?_
  apply wpS_seq
  apply wpS_region
  simp [wpOpsS, go_sem, recoverD, hu, Tryz.ntmps41, Exit.thenS]
  refine wpS_cond (t := false) (by simp [Act.eval, Array.replicate]) ?_
  simp only [Bool.false_eq_true, if_false]
  refine wpS_of_wp (wp_skip ?_)
  cases c₀
  simp_all [bodyPostS, results, Tryz.results41]
theorem conf_of {w : World} {g : Nat} {t : TypeId} {c : ConfM} {line : Nat} {mv v : Value} (h : Blk w g t (psC c line mv v)) : At w g 0 (c.cells v) := fun j u hj => h.all j u (by
  rw [psC, List.getElem?_append_left (List.getElem?_eq_some_iff.1 hj).1]; exact hj)
theorem PsAt.other {base gp m : Nat} {W W' : World} {s : PsM} {line : Nat} {mv v : Value} {Bs : List Nat} {g : Nat} (h : PsAt base gp m W s line mv v Bs) (hk : KeptBut W W' g) (hg : g < base) : PsAt base gp m W' s line mv v Bs :=
  ⟨h.ok, h.low, h.nd, h.nin, by
    have h0 := h.blk
    have h1 := h.low
    unfold Blk at h0 ⊢
    rw [hk.2 gp h.blk.lt (by omega)]
    exact h0, h.peers.kept fun k hb => hk.2 k (h.peers.mem k hb).2 (by have := (h.peers.mem k hb).1; omega), by
    cases hs : s.seen with
    | none =>
      have h2 := h.seen
      rw [hs] at h2
      exact h2
    | some S =>
      have h2 := h.seen
      rw [hs] at h2
      obtain ⟨gm, e1, e2, e3, e4, e5, e6⟩ := h2
      exact ⟨gm, e1, e2, e3, e4, e5, e6.kept (hk.2 gm e6.lt (by omega))⟩⟩
theorem Blk.but {w w' : World} {g k : Nat} {t : TypeId} {cs : List Value} (h : Blk w g t cs) (hk : KeptBut w w' k) (hne : g ≠ k) : Blk w' g t cs := by
  have h0 := h
  unfold Blk at h0 ⊢
  rw [hk.2 g h.lt hne]
  exact h0
theorem results_three {P : Program} {fn : Func} {p q r : Tmp} {ty t2 t3 : TypeId} (h : fn.results = #[.cell p ty, .cell q t2, .cell r t3]) (tmps : Array Value) (w : World) (g1 g2 g3 : Nat) (cs : List Value) (x y : Value) (d : TypeDesc)
    (hp : tmps.getD p undef = .pointer (some ⟨g1, 0, none⟩)) (hq : tmps.getD q undef = .pointer (some ⟨g2, 0, none⟩)) (hr : tmps.getD r undef = .pointer (some ⟨g3, 0, none⟩)) (hg : At w g1 0 cs) (hu : P.underlying ty = some d) (hd : isObj d = true) (hi : (P.info? ty).map (·.size) = some cs.length)
    (h2 : (loadVar t2 ⟨g2, 0, none⟩).run P w = .ok x w) (h3 : (loadVar t3 ⟨g3, 0, none⟩).run P w = .ok y w) :
    (results fn tmps).run P w = .ok (.tuple #[.agg cs.toArray, x, y]) w := by
  have hp' : tmps[p]?.getD undef = .pointer (some ⟨g1, 0, none⟩) := by simpa using hp
  have hq' : tmps[q]?.getD undef = .pointer (some ⟨g2, 0, none⟩) := by simpa using hq
  have hr' : tmps[r]?.getD undef = .pointer (some ⟨g3, 0, none⟩) := by simpa using hr
  simp [results, h, hp', hq', hr', asAddr, run_load_obj w g1 0 ty cs hg d hu hd hi, h2, h3]
set_option maxRecDepth 100000 in
set_option maxHeartbeats 8000000 in
theorem parse_ok {ok : PsM → List UInt8 → Prop} (HLC : LineC ok) (l : List UInt8) (c : ConfM) (w : World) (hlv : LvCf w) (hl : l.length ≤ 4000) (hok : RunOk ok ps0 (linesB l)) (h : parseCf l = some c) (hv : validE c = 0) (hn : c.peers.length ≤ 1000) (ha : ∀ p ∈ c.peers, p.al.length ≤ 1000) :
    Calls Tryz.prog 14 #[.string ⟨l.toArray⟩] w fun e w' => ∃ A cap, e = .returned (.tuple #[.agg (c.cells (.slice A c.peers.length cap)).toArray, .int .i64 0, .int .i64 0]) ∧ PeRd w' w'.heap.size A c.peers.length c.peers ∧ c.ok ∧ Below w.heap.size w w' := by
  have hmf : ∀ (fn : Fn) (first cap : Array Value) (w : World), (Instr.makeFunc fn first cap).run Tryz.prog w = .ok (.func fn first cap) w := fun _ _ _ _ => rfl
  obtain ⟨t, hr, he, htc⟩ : ∃ t, runM ps0 (linesB l) = some t ∧ endOk t = true ∧ t.conf = c := by
    unfold parseCf at h
    cases hx : runM ps0 (linesB l) with
    | none => rw [hx] at h; cases h
    | some t =>
      rw [hx] at h
      simp only at h
      by_cases he : endOk t = true
      · rw [if_pos he] at h
        injection h with h
        exact ⟨t, rfl, he, h⟩
      · rw [if_neg he] at h; cases h
  obtain ⟨S, hS⟩ : ∃ S : ByteArray, ⟨l.toArray⟩ = S := ⟨_, rfl⟩
  have hsz : S.size = l.length := by rw [← hS]; exact mk_size l
  have d1 : decide ((S.size : Int) > 4000) = false := by simp; omega
  have d2 : decide (4000 < S.size) = false := decide_eq_false (by omega)
  have HS := Lib.hid hS
  rw [hS]
  have HX := Lib.hid (And.intro hlv (And.intro hl (And.intro hok (And.intro hr (And.intro he htc)))))
  have HV := Lib.hid (And.intro hv (And.intro hn ha))
  clear hlv hl hok h hv hn ha hr he htc hS hsz
  obtain ⟨zc, hzc⟩ : ∃ z : Array Value, #[.int .u8 0, .int .u8 0, .int .u8 0, .int .u8 0, .int .u8 0, .int .u8 0, .int .u8 0, .int .u8 0, .int .u8 0, .int .u8 0, .int .u8 0, .int .u8 0, .int .u8 0, .int .u8 0, .int .u8 0, .int .u8 0, .int .u8 0, .int .u8 0, .int .u8 0, .int .u8 0, .int .u8 0, .int .u8 0, .int .u8 0, .int .u8 0, .int .u8 0, .int .u8 0, .int .u8 0, .int .u8 0, .int .u8 0, .int .u8 0, .int .u8 0, .int .u8 0, .int .i64 0, .slice none 0 0] = z := ⟨_, rfl⟩
  have HZC := Lib.hid (show zc.toList.length = 34 from by rw [← hzc]; rfl)
  have hm3 := (((Lows.nil w).alloc 27 zc zc.toList (by simp)).alloc 3 #[.int .i64 0] [.int .i64 0] rfl).alloc 34 #[.int .i64 0] [.int .i64 0] rfl
  have HM3 := Lib.hid (show Lows w [blkL (w.heap.size + 1 + 1) 34 [.int .i64 0], blkL (w.heap.size + 1) 3 [.int .i64 0], blkL w.heap.size 27 zc.toList] (((w.alloc (.cells zc 27)).alloc (.cells #[.int .i64 0] 3)).alloc (.cells #[.int .i64 0] 34)) from by simpa using hm3)
  have HSZ := Lib.hid (show (((w.alloc (.cells zc 27)).alloc (.cells #[.int .i64 0] 3)).alloc (.cells #[.int .i64 0] 34)).heap.size = w.heap.size + 1 + 1 + 1 from by simp)
  clear hm3
  go_enter_defers Tryz.func14, Tryz.ntmps14
  go_wp2_with fail
  generalize ((w.alloc (.cells zc 27)).alloc (.cells #[.int .i64 0] 3)).alloc (.cells #[.int .i64 0] 34) = w3 at HM3 HSZ ⊢
  have HB3 := Lib.hid HM3.out.bel
  have HP4 := Lib.hid (show PsA w3.heap.size w3.heap.size 0 (w3.alloc (.cells #[.int .u8 0, .int .u8 0, .int .u8 0, .int .u8 0, .int .u8 0, .int .u8 0, .int .u8 0, .int .u8 0, .int .u8 0, .int .u8 0, .int .u8 0, .int .u8 0, .int .u8 0, .int .u8 0, .int .u8 0, .int .u8 0, .int .u8 0, .int .u8 0, .int .u8 0, .int .u8 0, .int .u8 0, .int .u8 0, .int .u8 0, .int .u8 0, .int .u8 0, .int .u8 0, .int .u8 0, .int .u8 0, .int .u8 0, .int .u8 0, .int .u8 0, .int .u8 0, .int .i64 0, .slice none 0 0, .int .i64 0, .map none] 83)) ps0 0 from ⟨.map none, .slice none 0 0, [], conf0_ok, Nat.le_refl _, List.nodup_nil, by simp, Blk.new w3 83 (psC conf0 0 (.map none) (.slice none 0 0)), PeersAt.nil _ _, rfl⟩)
  have HB4 := Lib.hid ((Below.refl w3.heap.size w3).alloc (Nat.le_refl _) (.cells #[.int .u8 0, .int .u8 0, .int .u8 0, .int .u8 0, .int .u8 0, .int .u8 0, .int .u8 0, .int .u8 0, .int .u8 0, .int .u8 0, .int .u8 0, .int .u8 0, .int .u8 0, .int .u8 0, .int .u8 0, .int .u8 0, .int .u8 0, .int .u8 0, .int .u8 0, .int .u8 0, .int .u8 0, .int .u8 0, .int .u8 0, .int .u8 0, .int .u8 0, .int .u8 0, .int .u8 0, .int .u8 0, .int .u8 0, .int .u8 0, .int .u8 0, .int .u8 0, .int .i64 0, .slice none 0 0, .int .i64 0, .map none] 83))
  rw [show w.heap.size + 1 + 1 + 1 = w3.heap.size from HSZ.out.symm]
  generalize w3.alloc (.cells #[.int .u8 0, .int .u8 0, .int .u8 0, .int .u8 0, .int .u8 0, .int .u8 0, .int .u8 0, .int .u8 0, .int .u8 0, .int .u8 0, .int .u8 0, .int .u8 0, .int .u8 0, .int .u8 0, .int .u8 0, .int .u8 0, .int .u8 0, .int .u8 0, .int .u8 0, .int .u8 0, .int .u8 0, .int .u8 0, .int .u8 0, .int .u8 0, .int .u8 0, .int .u8 0, .int .u8 0, .int .u8 0, .int .u8 0, .int .u8 0, .int .u8 0, .int .u8 0, .int .i64 0, .slice none 0 0, .int .i64 0, .map none] 83) = w4 at HP4 HB4 ⊢
  have hread := read_any HLC w3 w4 w3.heap.size ps0 t l (HX.out.1.below HB3.out) HB4.out HP4.out HX.out.2.1 HX.out.2.2.1 HX.out.2.2.2.1 HX.out.2.2.2.2.1
  rw [HS.out] at hread
  refine hread.mono ?_
  rintro e w5 ⟨rfl, ⟨m, line, mv, v, Bs, hp⟩, hb⟩
  obtain ⟨A, cap, rfl, hcap, _⟩ := hp.slice
  obtain rfl := HX.out.2.2.2.2.2
  have HP := Lib.hid hp
  have HB5 := Lib.hid hb
  have HM5 := Lib.hid (HM3.out.below hb)
  have HLV5 := Lib.hid (HX.out.1.below HM5.out.bel)
  have HG := Lib.hid (show w.heap.size < w.heap.size + 1 ∧ w.heap.size + 1 + 1 < w3.heap.size from by rw [HSZ.out]; omega)
  clear hread hp hb hcap HP4 HB4 HM3 HB3 HX
  generalize w3.heap.size = gp at HP HB5 HG HSZ ⊢
  obtain ⟨g2, hg2⟩ : ∃ z, w.heap.size + 1 = z := ⟨_, rfl⟩
  obtain ⟨g3, hg3⟩ : ∃ z, g2 + 1 = z := ⟨_, rfl⟩
  rw [hg2, hg3] at HG HM5 HSZ
  rw [hg2, hg3]
  have HGL := Lib.hid (show w.heap.size < g2 ∧ g2 < g3 ∧ g3 < gp from by have := HG.out; omega)
  clear HG HSZ hg2 hg3
  generalize hg1 : w.heap.size = g1 at HM5 HGL ⊢
  have HB1 := Lib.hid (HM5.out.blk 2 rfl)
  have HB2 := Lib.hid (HM5.out.blk 1 rfl)
  have HB3 := Lib.hid (HM5.out.blk 0 rfl)
  have HBL := Lib.hid HM5.out.bel
  clear HM5
  obtain ⟨cc, hcc⟩ : ∃ z, (t.conf.cells (.slice A t.conf.peers.length cap)).toArray = z := ⟨_, rfl⟩
  have HCC := Lib.hid hcc
  clear hcc
  go_wp2_with ((with_reducible refine at_op (.load 27 (.tmp 13)) rfl ?_); refine wpList_load_obj rfl 27 (.tmp 13) rfl gp 0 rfl _ (conf_of HP.out.blk) _ Tryz.underlying27 rfl (conf_cellsOf t.conf HP.out.ok _) ?_; rw [HCC.out])
  have hval := validate_any t.conf A t.conf.peers.length cap w5 HP.out.ok (HP.out.peers.rd rfl HP.out.ok.2.2) HV.out.2.1 HV.out.2.2 HLV5.out
  rw [HCC.out, HV.out.1] at hval
  refine hval.mono ?_
  rintro e w6 ⟨rfl, hb⟩
  replace HP := Lib.hid (HP.out.below hb)
  replace HB1 := Lib.hid (HB1.out.below hb HB1.out.lt)
  replace HB2 := Lib.hid (HB2.out.below hb HB2.out.lt)
  replace HB3 := Lib.hid (HB3.out.below hb HB3.out.lt)
  replace HBL := Lib.hid (HBL.out.trans (hb.mono HBL.out.size))
  clear hb hval
  have f3 : w6.cell? ⟨g3, 0, none⟩ = some (.int .i64 0) := HB3.out.cell 0
  have z3 := HB3.out.frozen 0
  have hk := KeptBut.of_set (W := w6) (g := g3) (j := 0) (v := .int .i64 0)
  have HP7 := Lib.hid (HP.out.other hk HGL.out.2.2)
  have HB17 := Lib.hid (HB1.out.but hk (by have := HGL.out; omega))
  have HB27 := Lib.hid (HB2.out.but hk (by have := HGL.out; omega))
  have HB37 := Lib.hid (show Blk (w6.setCell ⟨g3, 0, none⟩ (.int .i64 0)) g3 34 [.int .i64 0] from HB3.out.set_ 0 (.int .i64 0))
  have HBL7 := Lib.hid (set_own (j := 0) (v := .int .i64 0) HBL.out (show w.heap.size ≤ g3 by have := HGL.out; omega))
  clear hk
  go_upto_region 7 with fail
  generalize w6.setCell ⟨g3, 0, none⟩ (.int .i64 0) = w7 at HP7 HB17 HB27 HB37 HBL7 ⊢
  clear f3 z3 HP HB1 HB2 HB3 HBL
  have f3 : w7.cell? ⟨g3, 0, none⟩ = some (.int .i64 0) := HB37.out.cell 0
  go_upto_region 9 with fail
  clear f3
  go_wp2_with (first | ((with_reducible refine at_op (.load 27 (.tmp 20)) rfl ?_); refine wpList_load_obj rfl 27 (.tmp 20) rfl gp 0 rfl _ (conf_of HP7.out.blk) _ Tryz.underlying27 rfl (conf_cellsOf t.conf HP7.out.ok _) ?_; rw [HCC.out]) | ((with_reducible refine at_op (.store 27 (.tmp 2) (.tmp 21)) rfl ?_); refine wpList_store_obj rfl 27 (.tmp 2) (.tmp 21) rfl g1 0 (t.conf.cells (.slice A t.conf.peers.length cap)) rfl (by show Value.agg cc = _; rw [HCC.out]) 27 zc.toList HB17.out (conf_cellsOf t.conf HP7.out.ok _) (by rw [ConfM.cells_length HP7.out.ok, HZC.out]; decide) (conf_one t.conf A _ cap) ?_; intro w8 hb8 hg8; have hk8 := KeptBut.of_grown hg8; have B2 := HB27.out.but hk8 (by have := HGL.out; omega); have B3 := HB37.out.but hk8 (by have := HGL.out; omega); have f2 : w8.cell? ⟨g2, 0, none⟩ = some (.int .i64 0) := B2.cell 0; have z2 := B2.frozen 0; have hk9 := KeptBut.of_set (W := w8) (g := g2) (j := 0) (v := .int .i64 0); have B39 := B3.but hk9 (by have := HGL.out; omega); have f3 : (w8.setCell ⟨g2, 0, none⟩ (.int .i64 0)).cell? ⟨g3, 0, none⟩ = some (.int .i64 0) := B39.cell 0; have z3 := B39.frozen 0))
  rw [setL_all zc.toList _ (by rw [ConfM.cells_length HP7.out.ok, HZC.out])] at hb8
  have hk10 := KeptBut.of_set (W := w8.setCell ⟨g2, 0, none⟩ (.int .i64 0)) (g := g3) (j := 0) (v := .int .i64 0)
  have B1F := Lib.hid ((hb8.but hk9 (by have := HGL.out; omega)).but hk10 (by have := HGL.out; omega))
  have B2F := Lib.hid (show Blk ((w8.setCell ⟨g2, 0, none⟩ (.int .i64 0)).setCell ⟨g3, 0, none⟩ (.int .i64 0)) g2 3 [.int .i64 0] from (B2.set_ 0 (.int .i64 0)).but hk10 (by have := HGL.out; omega))
  have B3F := Lib.hid (show Blk ((w8.setCell ⟨g2, 0, none⟩ (.int .i64 0)).setCell ⟨g3, 0, none⟩ (.int .i64 0)) g3 34 [.int .i64 0] from B39.set_ 0 (.int .i64 0))
  have HPF := Lib.hid (((HP7.out.other hk8 (by have := HGL.out; omega)).other hk9 (by have := HGL.out; omega)).other hk10 (by have := HGL.out; omega))
  have HBF := Lib.hid (set_own (j := 0) (v := .int .i64 0) (set_own (j := 0) (v := .int .i64 0) (grown_own HBL7.out hg8 (by omega)) (show w.heap.size ≤ g2 by have := HGL.out; omega)) (show w.heap.size ≤ g3 by have := HGL.out; omega))
  clear hb8 hg8 hk8 hk9 hk10 B2 B3 B39 f2 f3 z2 z3 HB17 HB27 HB37 HBL7 HP7
  generalize (w8.setCell ⟨g2, 0, none⟩ (.int .i64 0)).setCell ⟨g3, 0, none⟩ (.int .i64 0) = w9 at B1F B2F B3F HPF HBF ⊢
  have fi : (loadVar 3 ⟨g2, 0, none⟩).run Tryz.prog w9 = .ok (.int .i64 0) w9 := by
    have f : w9.cell? ⟨g2, 0, none⟩ = some (.int .i64 0) := B2F.out.cell 0
    simp [loadVar, f, go_sem]
  have fe : (loadVar 34 ⟨g3, 0, none⟩).run Tryz.prog w9 = .ok (.int .i64 0) w9 := by
    have f : w9.cell? ⟨g3, 0, none⟩ = some (.int .i64 0) := B3F.out.cell 0
    simp [loadVar, f, go_sem]
  refine leaves_cons (f := 41) (args := #[.pointer (some ⟨gp, 0, none⟩), .pointer (some ⟨g1, 0, none⟩), .pointer (some ⟨g2, 0, none⟩), .pointer (some ⟨g3, 0, none⟩)]) (by simp) (by simp [go_sem]) ?_
  refine (closure_idle _ _ _ _ _).mono ?_
  rintro e u' w'' ⟨rfl, rfl, rfl⟩
  exact ⟨_, results_three rfl _ _ g1 g2 g3 _ _ _ _ rfl rfl rfl B1F.out.all Tryz.underlying27 rfl (conf_cellsOf t.conf HPF.out.ok _) fi fe, A, cap, rfl, HPF.out.peers.rd rfl HPF.out.ok.2.2, HPF.out.ok, HBF.out⟩
set_option maxRecDepth 100000 in
set_option maxHeartbeats 8000000 in
theorem parse_long (l : List UInt8) (w : World) (h : 4000 < l.length) (hl : l.length ≤ 1000000) :
    Calls Tryz.prog 14 #[.string ⟨l.toArray⟩] w fun e w' => e = .returned (.tuple #[.agg (conf0.cells (.slice none 0 0)).toArray, .int .i64 0, .int .i64 3]) ∧ Below w.heap.size w w' := by
  obtain ⟨S, hS⟩ : ∃ S : ByteArray, ⟨l.toArray⟩ = S := ⟨_, rfl⟩
  have hsz : S.size = l.length := by rw [← hS]; exact mk_size l
  have d1 : decide ((S.size : Int) > 4000) = true := by simp; omega
  have d2 : decide (4000 < S.size) = true := decide_eq_true (by omega)
  rw [hS]
  clear hS
  obtain ⟨zc, hzc⟩ : ∃ z : Array Value, #[.int .u8 0, .int .u8 0, .int .u8 0, .int .u8 0, .int .u8 0, .int .u8 0, .int .u8 0, .int .u8 0, .int .u8 0, .int .u8 0, .int .u8 0, .int .u8 0, .int .u8 0, .int .u8 0, .int .u8 0, .int .u8 0, .int .u8 0, .int .u8 0, .int .u8 0, .int .u8 0, .int .u8 0, .int .u8 0, .int .u8 0, .int .u8 0, .int .u8 0, .int .u8 0, .int .u8 0, .int .u8 0, .int .u8 0, .int .u8 0, .int .u8 0, .int .u8 0, .int .i64 0, .slice none 0 0] = z := ⟨_, rfl⟩
  have HZC := Lib.hid (show zc.toList.length = 34 from by rw [← hzc]; rfl)
  have hcz : zc.toList = conf0.cells (.slice none 0 0) := by rw [← hzc]; rfl
  have HCZ := Lib.hid hcz
  have HBT := Lib.hid (show Tryz.prog.built 27 [] = some zc from by rw [← hzc]; kernel_rfl)
  have hm3 := (((Lows.nil w).alloc 27 zc zc.toList (by simp)).alloc 3 #[.int .i64 0] [.int .i64 0] rfl).alloc 34 #[.int .i64 0] [.int .i64 0] rfl
  have HM3 := Lib.hid (show Lows w [blkL (w.heap.size + 1 + 1) 34 [.int .i64 0], blkL (w.heap.size + 1) 3 [.int .i64 0], blkL w.heap.size 27 zc.toList] (((w.alloc (.cells zc 27)).alloc (.cells #[.int .i64 0] 3)).alloc (.cells #[.int .i64 0] 34)) from by simpa using hm3)
  clear hm3 hcz
  go_enter_defers Tryz.func14, Tryz.ntmps14
  go_upto_region 2 with fail
  generalize ((w.alloc (.cells zc 27)).alloc (.cells #[.int .i64 0] 3)).alloc (.cells #[.int .i64 0] 34) = w3 at HM3 ⊢
  obtain ⟨g2, hg2⟩ : ∃ z, w.heap.size + 1 = z := ⟨_, rfl⟩
  obtain ⟨g3, hg3⟩ : ∃ z, g2 + 1 = z := ⟨_, rfl⟩
  rw [hg2, hg3] at HM3
  rw [hg2, hg3]
  have HGL := Lib.hid (show w.heap.size < g2 ∧ g2 < g3 from by omega)
  clear hg2 hg3
  generalize hg1 : w.heap.size = g1 at HM3 HGL ⊢
  have HB1 := Lib.hid (HM3.out.blk 2 rfl)
  have HB2 := Lib.hid (HM3.out.blk 1 rfl)
  have HB3 := Lib.hid (HM3.out.blk 0 rfl)
  have HBL := Lib.hid HM3.out.bel
  clear HM3 d1 d2
  go_wp2_with (first | (refine wpList_build_as rfl 27 [] rfl zc ?_ ?_; exact HBT.out) | ((with_reducible refine at_op (.store 27 (.tmp 2) (.tmp 9)) rfl ?_); refine wpList_store_obj rfl 27 (.tmp 2) (.tmp 9) rfl g1 0 zc.toList rfl (by show Value.agg zc = _; simp) 27 zc.toList HB1.out (by rw [HZC.out]; kernel_rfl) (by omega) (by rw [HCZ.out]; exact conf_one conf0 none 0 0) ?_; intro w8 hb8 hg8; have hk8 := KeptBut.of_grown hg8; have B2 := HB2.out.but hk8 (by have := HGL.out; omega); have B3 := HB3.out.but hk8 (by have := HGL.out; omega); have f2 : w8.cell? ⟨g2, 0, none⟩ = some (.int .i64 0) := B2.cell 0; have z2 := B2.frozen 0; have hk9 := KeptBut.of_set (W := w8) (g := g2) (j := 0) (v := .int .i64 0); have B39 := B3.but hk9 (by have := HGL.out; omega); have f3 : (w8.setCell ⟨g2, 0, none⟩ (.int .i64 0)).cell? ⟨g3, 0, none⟩ = some (.int .i64 0) := B39.cell 0; have z3 := B39.frozen 0))
  rw [setL_all zc.toList _ rfl] at hb8
  have hk10 := KeptBut.of_set (W := w8.setCell ⟨g2, 0, none⟩ (.int .i64 0)) (g := g3) (j := 0) (v := .int .i64 3)
  have B1F := Lib.hid ((hb8.but hk9 (by have := HGL.out; omega)).but hk10 (by have := HGL.out; omega))
  have B2F := Lib.hid (show Blk ((w8.setCell ⟨g2, 0, none⟩ (.int .i64 0)).setCell ⟨g3, 0, none⟩ (.int .i64 3)) g2 3 [.int .i64 0] from (B2.set_ 0 (.int .i64 0)).but hk10 (by have := HGL.out; omega))
  have B3F := Lib.hid (show Blk ((w8.setCell ⟨g2, 0, none⟩ (.int .i64 0)).setCell ⟨g3, 0, none⟩ (.int .i64 3)) g3 34 [.int .i64 3] from B39.set_ 0 (.int .i64 3))
  have HBF := Lib.hid (set_own (j := 0) (v := .int .i64 3) (set_own (j := 0) (v := .int .i64 0) (grown_own HBL.out hg8 (by omega)) (show w.heap.size ≤ g2 by have := HGL.out; omega)) (show w.heap.size ≤ g3 by have := HGL.out; omega))
  clear hb8 hg8 hk8 hk9 hk10 B2 B3 B39 f2 f3 z2 z3 HB1 HB2 HB3 HBL
  generalize (w8.setCell ⟨g2, 0, none⟩ (.int .i64 0)).setCell ⟨g3, 0, none⟩ (.int .i64 3) = w9 at B1F B2F B3F HBF ⊢
  have fi : (loadVar 3 ⟨g2, 0, none⟩).run Tryz.prog w9 = .ok (.int .i64 0) w9 := by
    have f : w9.cell? ⟨g2, 0, none⟩ = some (.int .i64 0) := B2F.out.cell 0
    simp [loadVar, f, go_sem]
  have fe : (loadVar 34 ⟨g3, 0, none⟩).run Tryz.prog w9 = .ok (.int .i64 3) w9 := by
    have f : w9.cell? ⟨g3, 0, none⟩ = some (.int .i64 3) := B3F.out.cell 0
    simp [loadVar, f, go_sem]
  have hat : At w9 g1 0 (conf0.cells (.slice none 0 0)) := by rw [← HCZ.out]; exact B1F.out.all
  exact ⟨_, results_three rfl _ _ g1 g2 g3 _ _ _ _ rfl rfl rfl hat Tryz.underlying27 rfl (conf_cellsOf conf0 conf0_ok _) fi fe, rfl, by first | exact HBF.out | (rw [← hg1]; exact HBF.out)⟩
end Go.Proofs.YtcbfchkhbngpkaaGreatDoor
namespace Go.Proofs.YtcbfchkhbngpkaaGreatDoor
open Go.RowKit

theorem b64_byte (d : Nat) (h : d < 64) : b64D d ≠ 10 ∧ b64D d ≠ 32 ∧ b64D d ≠ 9 := by
  have : ∀ d : Fin 64, b64D d.val ≠ 10 ∧ b64D d.val ≠ 32 ∧ b64D d.val ≠ 9 := by decide +kernel
  exact this ⟨d, h⟩
theorem textL_bytes (k : List UInt8) : ∀ x ∈ textL k, x ≠ 10 ∧ x ≠ 32 ∧ x ≠ 9 := by
  intro x hx
  rw [textL, chrs, List.mem_append, List.mem_map, List.mem_singleton] at hx
  rcases hx with ⟨i, _, rfl⟩ | rfl
  · exact b64_byte _ (sext_lt _ _)
  · decide
/-- nothing is cut off a text without blanks at its ends -/
theorem trimL_id (l : List UInt8) (h : ∀ a, l.head? = some a → bl2.contains a = false) : Lib.trimLeftS l bl2 = l := by
  unfold Lib.trimLeftS
  cases l with
  | nil => rfl
  | cons a r => rw [List.dropWhile_cons, if_neg (by rw [h a rfl]; simp)]
theorem trimR_id (l : List UInt8) (h : ∀ a, l.getLast? = some a → bl2.contains a = false) : Lib.trimRightS l bl2 = l := by
  have e := trimL_id l.reverse (fun a ha => h a (by rwa [List.head?_reverse] at ha))
  unfold Lib.trimLeftS at e
  unfold Lib.trimRightS
  rw [e, List.reverse_reverse]
theorem lim_l1 : lineM ps0 tIface = some ⟨conf0, some []⟩ := by
  rw [lineM, if_neg (by decide), if_pos rfl]
  rfl
end Go.Proofs.YtcbfchkhbngpkaaGreatDoor
namespace Go.Proofs.YtcbfchkhbngpkaaGreatDoor
open Go.RowKit

def noteT : List UInt8 := [10, 35, 32, 110, 111, 116, 101, 10, 10]
/-- a separator with what is added to it -/
def chgC (c x : UInt8) : List UInt8 := if c = 10 ∧ x.toNat % 7 = 0 then noteT else if x.toNat % 4 = 0 then [c] else if x.toNat % 4 = 1 then [32, c] else if x.toNat % 4 = 2 then [9, c] else [c, 32]
def isSep (c : UInt8) (r : List UInt8) : Bool := (decide (c = 61) && decide (r.head? = some 32)) || decide (c = 10)
def sepOut (c : UInt8) : List UInt8 → List UInt8
  | [] => [c]
  | x :: _ => chgC c x
def chgM : List UInt8 → List UInt8 → List UInt8
  | _, [] => []
  | sp, c :: r => if isSep c r = true then sepOut c sp ++ chgM sp.tail r else c :: chgM sp r
theorem chgM_end (sp : List UInt8) : chgM sp [] = [] := by rw [chgM]
theorem chgM_cons (sp : List UInt8) (c : UInt8) (r : List UInt8) : chgM sp (c :: r) = if isSep c r = true then sepOut c sp ++ chgM sp.tail r else c :: chgM sp r := by rw [chgM]
theorem chgM_nil : ∀ l : List UInt8, chgM [] l = l
  | [] => chgM_end []
  | c :: r => by
    have e : sepOut c [] ++ chgM ([] : List UInt8).tail r = c :: chgM [] r := rfl
    rw [chgM_cons, e, chgM_nil r, ite_self]
/-- bytes without a separator stay -/
theorem chgM_plain (sp : List UInt8) : ∀ (a r : List UInt8), (∀ (i : Nat) c, a[i]? = some c → isSep c ((a.drop (i + 1)) ++ r) = false) → chgM sp (a ++ r) = a ++ chgM sp r
  | [], _, _ => rfl
  | c :: a, r, h => by
    have h0 := h 0 c rfl
    rw [List.drop_succ_cons, List.drop_zero] at h0
    rw [List.cons_append, chgM_cons, h0, if_neg (by simp), chgM_plain sp a r (fun i x hx => by have := h (i + 1) x (by simpa using hx); simpa using this), List.cons_append]
theorem sep_none {c : UInt8} {r : List UInt8} (h1 : c ≠ 61) (h2 : c ≠ 10) : isSep c r = false := by simp [isSep, h1, h2]
theorem chgM_free (sp : List UInt8) (a r : List UInt8) (h1 : (61 : UInt8) ∉ a) (h2 : (10 : UInt8) ∉ a) : chgM sp (a ++ r) = a ++ chgM sp r :=
  chgM_plain sp a r fun _ _ hc => sep_none (fun e => h1 (e ▸ List.mem_of_getElem? hc)) (fun e => h2 (e ▸ List.mem_of_getElem? hc))
/-- a value: no byte of it is a separator where a line's end comes behind it -/
def valOk (V : List UInt8) : Prop := (10 : UInt8) ∉ V ∧ ((61 : UInt8) ∉ V ∨ (32 : UInt8) ∉ V)
theorem chgM_val (sp : List UInt8) (V R : List UInt8) (h : valOk V) : chgM sp (V ++ 10 :: R) = V ++ chgM sp (10 :: R) := by
  refine chgM_plain sp V (10 :: R) fun i c hc => ?_
  have hc10 : c ≠ 10 := fun e => h.1 (e ▸ List.mem_of_getElem? hc)
  rcases h.2 with h2 | h2
  · exact sep_none (fun e => h2 (e ▸ List.mem_of_getElem? hc)) hc10
  · have hh : (V.drop (i + 1) ++ 10 :: R).head? ≠ some 32 := by
      cases hd : V.drop (i + 1) with
      | nil => simp
      | cons x xs =>
        intro e
        simp only [List.cons_append, List.head?_cons, Option.some.injEq] at e
        subst e
        exact h2 (List.mem_of_mem_drop (i := i + 1) (by rw [hd]; exact List.mem_cons_self ..))
    rw [isSep, decide_eq_false hh, Bool.and_false, decide_eq_false hc10]
    rfl
def blank (b : List UInt8) : Prop := ∀ x ∈ b, bl2.contains x = true
theorem blank_nil : blank [] := by simp [blank]
theorem blank_app {a b : List UInt8} (h1 : blank a) (h2 : blank b) : blank (a ++ b) := fun x hx => by
  rcases List.mem_append.1 hx with h | h
  · exact h1 x h
  · exact h2 x h
theorem blank_no {b : List UInt8} (h : blank b) : (10 : UInt8) ∉ b ∧ (61 : UInt8) ∉ b := ⟨fun hx => absurd (h _ hx) (by decide), fun hx => absurd (h _ hx) (by decide)⟩
theorem blank_one {x : UInt8} (h : bl2.contains x = true) : blank [x] := fun y hy => by rw [List.mem_singleton.1 hy]; exact h
theorem trimL_blank {b l : List UInt8} (hb : blank b) : Lib.trimLeftS (b ++ l) bl2 = Lib.trimLeftS l bl2 := by
  induction b with
  | nil => rfl
  | cons x r ih =>
    have hx := hb x (List.mem_cons_self ..)
    have e : Lib.trimLeftS ((x :: r) ++ l) bl2 = Lib.trimLeftS (r ++ l) bl2 := by
      unfold Lib.trimLeftS
      rw [List.cons_append, List.dropWhile_cons, if_pos (by simpa using hx)]
    rw [e]
    exact ih (fun y hy => hb y (List.mem_cons_of_mem _ hy))
theorem trimR_blank {b l : List UInt8} (hb : blank b) : Lib.trimRightS (l ++ b) bl2 = Lib.trimRightS l bl2 := by
  have e := trimL_blank (b := b.reverse) (l := l.reverse) (fun x hx => hb x (List.mem_reverse.1 hx))
  unfold Lib.trimLeftS at e
  unfold Lib.trimRightS
  rw [List.reverse_append, e]
/-- no blank stands at its ends -/
def tight (l : List UInt8) : Prop := (∀ a, l.head? = some a → bl2.contains a = false) ∧ ∀ a, l.getLast? = some a → bl2.contains a = false
theorem trim_tight {b l t : List UInt8} (hb : blank b) (ht : blank t) (h : tight l) : Lib.trimS (b ++ l ++ t) bl2 = l := by
  rw [Lib.trimS, trimR_blank ht]
  by_cases h0 : l = []
  · subst h0
    rw [List.append_nil]
    have e1 := trimR_blank (l := []) hb
    rw [List.nil_append] at e1
    rw [e1]
    rfl
  · have e : Lib.trimRightS (b ++ l) bl2 = b ++ l := trimR_id _ fun a ha => by
      rw [List.getLast?_append] at ha
      cases hl : l.getLast? with
      | none => exact absurd (List.getLast?_eq_none_iff.1 hl) h0
      | some x =>
        rw [hl] at ha
        simp only [Option.some_or, Option.some.injEq] at ha
        subst ha
        exact h.2 x hl
    rw [e, trimL_blank hb, trimL_id l h.1]
/-- a line: plain, or a name and its value -/
inductive Ln where
  | plain (a : List UInt8)
  | ent (N V : List UInt8)
def Ln.text : Ln → List UInt8
  | .plain a => a
  | .ent N V => N ++ ([32, 61, 32] ++ V)
def Ln.eff (s : PsM) : Ln → Option PsM
  | .plain a => lineM s a
  | .ent N V => entryM s N V
def Ln.good : Ln → Prop
  | .plain a => (61 : UInt8) ∉ a ∧ (10 : UInt8) ∉ a ∧ tight a
  | .ent N V => (61 : UInt8) ∉ N ∧ (10 : UInt8) ∉ N ∧ N ≠ [] ∧ N.head? ≠ some 35 ∧ tight N ∧ valOk V ∧ V ≠ [] ∧ tight V
def runL : PsM → List Ln → Option PsM
  | s, [] => some s
  | s, l :: r => match l.eff s with
    | none => none
    | some t => runL t r
theorem runL_append : ∀ (ls ms : List Ln) (s : PsM), runL s (ls ++ ms) = match runL s ls with
    | none => none
    | some t => runL t ms
  | [], _, _ => rfl
  | l :: r, ms, s => by
    rw [List.cons_append, runL, runL]
    cases l.eff s with
    | none => rfl
    | some t => exact runL_append r ms t
theorem entry_line (s : PsM) {N V b d1 d2 t : List UInt8} (h : (Ln.ent N V).good) (hb : blank b) (h1 : blank d1) (h2 : blank d2) (ht : blank t) : lineM s (Lib.trimS (b ++ (N ++ (d1 ++ 61 :: (d2 ++ V))) ++ t) bl2) = entryM s N V := by
  obtain ⟨hn1, hn2, hn0, hn35, hnt, hv, hv0, hvt⟩ := h
  have hne : N ++ (d1 ++ 61 :: (d2 ++ V)) ≠ [] := by simp [hn0]
  have htg : tight (N ++ (d1 ++ 61 :: (d2 ++ V))) := by
    refine ⟨fun a ha => ?_, fun a ha => ?_⟩
    · cases N with
      | nil => exact absurd rfl hn0
      | cons x r => exact hnt.1 a (by simpa using ha)
    · refine hvt.2 a ?_
      cases hl : V.getLast? with
      | none => exact absurd (List.getLast?_eq_none_iff.1 hl) hv0
      | some x =>
        rw [show N ++ (d1 ++ 61 :: (d2 ++ V)) = (N ++ d1 ++ 61 :: d2) ++ V from by simp, List.getLast?_append, hl] at ha
        simpa using ha
  rw [trim_tight hb ht htg]
  have e1 : ¬(N ++ (d1 ++ 61 :: (d2 ++ V)) = [] ∨ (N ++ (d1 ++ 61 :: (d2 ++ V))).head? = some 35) := by
    rintro (e | e)
    · exact hne e
    · cases N with
      | nil => exact absurd rfl hn0
      | cons x r => exact hn35 (by simpa using e)
  have hm : (61 : UInt8) ∈ N ++ (d1 ++ 61 :: (d2 ++ V)) := by simp
  have e2 : N ++ (d1 ++ 61 :: (d2 ++ V)) ≠ tIface := fun e => absurd (e ▸ hm) (by decide)
  have e3 : N ++ (d1 ++ 61 :: (d2 ++ V)) ≠ tPeer := fun e => absurd (e ▸ hm) (by decide)
  have ec : Lib.cut (N ++ (d1 ++ 61 :: (d2 ++ V))) [61] = (N ++ d1, d2 ++ V, true) := by
    rw [show N ++ (d1 ++ 61 :: (d2 ++ V)) = (N ++ d1) ++ 61 :: (d2 ++ V) from by simp]
    exact cut_some (fun hx => by
      rcases List.mem_append.1 hx with h | h
      · exact hn1 h
      · exact (blank_no h1).2 h)
  rw [lineM, if_neg e1, if_neg e2, if_neg e3, ec, if_pos rfl]
  show entryM s (Lib.trimRightS (N ++ d1) bl2) (Lib.trimLeftS (d2 ++ V) bl2) = _
  rw [trimR_blank h1, trimR_id N hnt.2, trimL_blank h2, trimL_id V hvt.1]
theorem line_blank (s : PsM) {b : List UInt8} (hb : blank b) : lineM s (Lib.trimS b bl2) = some s := by
  have h := trim_tight (b := b) (l := []) (t := []) hb blank_nil ⟨by simp, by simp⟩
  rw [List.append_nil, List.append_nil] at h
  rw [h, lineM, if_pos (.inl rfl)]
theorem linesB_blank {b : List UInt8} (hb : blank b) (s : PsM) : runM s (linesB b) = some s := by
  by_cases h0 : b = []
  · subst h0; rfl
  · rw [linesB_last (blank_no hb).1 h0, runM, line_blank s hb]
    rfl
theorem note_run (s : PsM) (T : List UInt8) : runM s (linesB ([35, 32, 110, 111, 116, 101] ++ 10 :: ([] ++ 10 :: T))) = runM s (linesB T) := by
  rw [linesB_cons (by decide), linesB_cons (by simp), runM, show lineM s (Lib.trimS [35, 32, 110, 111, 116, 101] bl2) = some s from by
    rw [show Lib.trimS [35, 32, 110, 111, 116, 101] bl2 = [35, 32, 110, 111, 116, 101] from by decide, lineM, if_pos (.inr rfl)]]
  simp only
  rw [runM, line_blank s blank_nil]
/-- what stands at a line's end: blanks, the end, perhaps lines that count for nothing, blanks -/
theorem end_form (sp : List UInt8) (R : List UInt8) : ∃ t b' sp', blank t ∧ blank b' ∧ ∀ (a : List UInt8) (s : PsM), (10 : UInt8) ∉ a → runM s (linesB (a ++ chgM sp (10 :: R))) = match lineM s (Lib.trimS (a ++ t) bl2) with
    | none => none
    | some u => runM u (linesB (b' ++ chgM sp' R)) := by
  have hsep : isSep 10 R = true := by simp [isSep]
  have key : ∀ (t b' sp' T : List UInt8), blank t → (∀ (a : List UInt8), a ++ chgM sp (10 :: R) = (a ++ t) ++ 10 :: T) → (∀ u, runM u (linesB T) = runM u (linesB (b' ++ chgM sp' R))) → ∀ (a : List UInt8) (s : PsM), (10 : UInt8) ∉ a → runM s (linesB (a ++ chgM sp (10 :: R))) = match lineM s (Lib.trimS (a ++ t) bl2) with
      | none => none
      | some u => runM u (linesB (b' ++ chgM sp' R)) := by
    intro t b' sp' T ht hT hu a s ha
    rw [hT a, linesB_cons (fun hx => by
      rcases List.mem_append.1 hx with h | h
      · exact ha h
      · exact (blank_no ht).1 h), runM]
    cases lineM s (Lib.trimS (a ++ t) bl2) with
    | none => rfl
    | some u => exact hu u
  cases sp with
  | nil => exact ⟨[], [], [], blank_nil, blank_nil, key [] [] [] (chgM [] R) blank_nil (fun a => by rw [chgM_cons, if_pos hsep]; simp [sepOut]) (fun u => rfl)⟩
  | cons x sp' =>
    by_cases h7 : x.toNat % 7 = 0
    · refine ⟨[], [], sp', blank_nil, blank_nil, key [] [] sp' ([35, 32, 110, 111, 116, 101] ++ 10 :: ([] ++ 10 :: chgM sp' R)) blank_nil (fun a => ?_) (fun u => note_run u _)⟩
      rw [chgM_cons, if_pos hsep]
      simp [sepOut, chgC, h7, noteT]
    · have h4 : x.toNat % 4 = 0 ∨ x.toNat % 4 = 1 ∨ x.toNat % 4 = 2 ∨ x.toNat % 4 = 3 := by omega
      rcases h4 with h | h | h | h
      · exact ⟨[], [], sp', blank_nil, blank_nil, key [] [] sp' (chgM sp' R) blank_nil (fun a => by rw [chgM_cons, if_pos hsep]; simp [sepOut, chgC, h7, h]) (fun u => rfl)⟩
      · exact ⟨[32], [], sp', blank_one (by decide), blank_nil, key [32] [] sp' (chgM sp' R) (blank_one (by decide)) (fun a => by rw [chgM_cons, if_pos hsep]; simp [sepOut, chgC, h7, h]) (fun u => rfl)⟩
      · exact ⟨[9], [], sp', blank_one (by decide), blank_nil, key [9] [] sp' (chgM sp' R) (blank_one (by decide)) (fun a => by rw [chgM_cons, if_pos hsep]; simp [sepOut, chgC, h7, h]) (fun u => rfl)⟩
      · exact ⟨[], [32], sp', blank_nil, blank_one (by decide), key [] [32] sp' ([32] ++ chgM sp' R) blank_nil (fun a => by rw [chgM_cons, if_pos hsep]; simp [sepOut, chgC, h7, h]) (fun u => rfl)⟩
/-- and what stands about a name's separator -/
theorem eq_form (sp : List UInt8) (R : List UInt8) : ∃ d1 d2 sp', blank d1 ∧ blank d2 ∧ chgM sp (61 :: 32 :: R) = d1 ++ 61 :: (d2 ++ chgM sp' R) := by
  have hsep : isSep 61 (32 :: R) = true := by simp [isSep]
  have h32 : ∀ q, chgM q (32 :: R) = 32 :: chgM q R := fun q => by rw [chgM_cons, sep_none (by decide) (by decide), if_neg (by simp)]
  have b1 : blank [32] := blank_one (by decide)
  cases sp with
  | nil => exact ⟨[], [32], [], blank_nil, b1, by rw [chgM_cons, if_pos hsep]; simp [sepOut, h32]⟩
  | cons x sp' =>
    have h4 : x.toNat % 4 = 0 ∨ x.toNat % 4 = 1 ∨ x.toNat % 4 = 2 ∨ x.toNat % 4 = 3 := by omega
    rcases h4 with h | h | h | h
    · exact ⟨[], [32], sp', blank_nil, b1, by rw [chgM_cons, if_pos hsep]; simp [sepOut, chgC, h, h32]⟩
    · exact ⟨[32], [32], sp', b1, b1, by rw [chgM_cons, if_pos hsep]; simp [sepOut, chgC, h, h32]⟩
    · exact ⟨[9], [32], sp', blank_one (by decide), b1, by rw [chgM_cons, if_pos hsep]; simp [sepOut, chgC, h, h32]⟩
    · exact ⟨[], [32, 32], sp', blank_nil, blank_app b1 b1, by rw [chgM_cons, if_pos hsep]; simp [sepOut, chgC, h, h32]⟩
theorem run_chg : ∀ (ls : List Ln) (sp b : List UInt8) (s : PsM), (∀ l ∈ ls, l.good) → blank b → runM s (linesB (b ++ chgM sp (ls.flatMap fun l => l.text ++ [10]))) = runL s ls
  | [], sp, b, s, _, hb => by
    rw [List.flatMap_nil, chgM_end, List.append_nil, linesB_blank hb]
    rfl
  | .plain a :: r, sp, b, s, h, hb => by
    obtain ⟨h1, h2, h3⟩ := h _ (List.mem_cons_self ..)
    have e : (Ln.plain a :: r).flatMap (fun l => l.text ++ [10]) = a ++ 10 :: r.flatMap (fun l => l.text ++ [10]) := by simp [Ln.text]
    obtain ⟨t, b', sp', ht, hb', hf⟩ := end_form sp (r.flatMap fun l => l.text ++ [10])
    rw [e, chgM_free sp a _ h1 h2, ← List.append_assoc, hf (b ++ a) s (fun hx => by
      rcases List.mem_append.1 hx with h | h
      · exact (blank_no hb).1 h
      · exact h2 h), trim_tight hb ht h3, runL]
    show (match lineM s a with
      | none => none
      | some u => _) = _
    rw [show (Ln.plain a).eff s = lineM s a from rfl]
    cases lineM s a with
    | none => rfl
    | some u => exact run_chg r sp' b' u (fun l hl => h l (List.mem_cons_of_mem _ hl)) hb'
  | .ent N V :: r, sp, b, s, h, hb => by
    have hg := h _ (List.mem_cons_self ..)
    have hg2 := hg
    obtain ⟨hn1, hn2, hn0, hn35, hnt, hv, hv0, hvt⟩ := hg2
    obtain ⟨R, hR⟩ : ∃ R, r.flatMap (fun l => l.text ++ [10]) = R := ⟨_, rfl⟩
    have e : (Ln.ent N V :: r).flatMap (fun l => l.text ++ [10]) = (N ++ [32]) ++ 61 :: 32 :: (V ++ 10 :: R) := by simp [Ln.text, ← hR]
    obtain ⟨d1, d2, sp1, hd1, hd2, hq⟩ := eq_form sp (V ++ 10 :: R)
    obtain ⟨t, b', sp', ht, hb', hf⟩ := end_form sp1 R
    have n32 : (61 : UInt8) ∉ N ++ [32] ∧ (10 : UInt8) ∉ N ++ [32] := ⟨fun hx => by
      rcases List.mem_append.1 hx with h | h
      · exact hn1 h
      · simp at h, fun hx => by
      rcases List.mem_append.1 hx with h | h
      · exact hn2 h
      · simp at h⟩
    have b32 : blank ([32] ++ d1) := blank_app (blank_one (by decide)) hd1
    have e2 : b ++ chgM sp ((N ++ [32]) ++ 61 :: 32 :: (V ++ 10 :: R)) = (b ++ (N ++ (([32] ++ d1) ++ 61 :: (d2 ++ V)))) ++ chgM sp1 (10 :: R) := by
      rw [chgM_free sp _ _ n32.1 n32.2, hq, chgM_val sp1 V R hv]
      simp
    rw [e, e2, hf _ s (fun hx => by
      simp only [List.mem_append, List.mem_cons] at hx
      rcases hx with h | h | (h | h) | h | h | h
      · exact (blank_no hb).1 h
      · exact hn2 h
      · simp at h
      · exact (blank_no hd1).1 h
      · cases h
      · exact (blank_no hd2).1 h
      · exact hv.1 h), entry_line s hg hb b32 hd2 ht, runL]
    rw [show (Ln.ent N V).eff s = entryM s N V from rfl]
    cases entryM s N V with
    | none => rfl
    | some u =>
      have ih := run_chg r sp' b' u (fun l hl => h l (List.mem_cons_of_mem _ hl)) hb'
      rw [hR] at ih
      exact ih
end Go.Proofs.YtcbfchkhbngpkaaGreatDoor
namespace Go.Proofs.YtcbfchkhbngpkaaGreatDoor
open Go.RowKit

/-! ### the bytes of texts -/
theorem join_mem {c x : UInt8} : ∀ {ls : List (List UInt8)}, x ∈ joinT c ls → x = c ∨ ∃ l ∈ ls, x ∈ l
  | [], h => by simp [joinT] at h
  | [a], h => .inr ⟨a, List.mem_cons_self .., h⟩
  | a :: b :: r, h => by
    rw [joinT] at h
    rcases List.mem_append.1 h with h | h
    · exact .inr ⟨a, List.mem_cons_self .., h⟩
    · rcases List.mem_cons.1 h with h | h
      · exact .inl h
      · rcases join_mem h with h | ⟨l, hl, hx⟩
        · exact .inl h
        · exact .inr ⟨l, List.mem_cons_of_mem _ hl, hx⟩
theorem addr_not {a : AddrM} {c : UInt8} (h1 : isDig c = false) (h2 : hexVal c = 16) (h3 : c ≠ 46) (h4 : c ≠ 58) : c ∉ addrT a := by
  intro h
  unfold addrT at h
  split at h
  · simp at h
  · split at h
    · rcases join_mem h with h | ⟨l, hl, hx⟩
      · exact h4 h
      · obtain ⟨i, _, rfl⟩ := List.mem_map.1 hl
        exact hex_not h2 hx
    · rcases join_mem h with h | ⟨l, hl, hx⟩
      · exact h3 h
      · obtain ⟨i, _, rfl⟩ := List.mem_map.1 hl
        exact dec_not h1 hx
/-- the bytes that neither an address nor a number has -/
def odd5 (c : UInt8) : Prop := c = 10 ∨ c = 32 ∨ c = 9 ∨ c = 61 ∨ c = 44
theorem odd5_addr {a : AddrM} {c : UInt8} (h : odd5 c) : c ∉ addrT a := by
  rcases h with rfl | rfl | rfl | rfl | rfl <;> exact addr_not (by decide) (by decide) (by decide) (by decide)
theorem odd5_dec {n : Nat} {c : UInt8} (h : odd5 c) : c ∉ decT n := by
  rcases h with rfl | rfl | rfl | rfl | rfl <;> exact dec_not (by decide)
theorem odd5_end {a : AddrM} {q : Int} {c : UInt8} (h : odd5 c) : c ∉ endT a q := by
  intro hx
  unfold endT at hx
  split at hx
  · simp at hx
  · rcases List.mem_append.1 hx with hx | hx
    · split at hx
      · simp only [List.mem_cons, List.mem_append, List.not_mem_nil, or_false] at hx
        rcases hx with hx | hx | hx
        · rcases h with rfl | rfl | rfl | rfl | rfl <;> cases hx
        · exact odd5_addr h hx
        · rcases h with rfl | rfl | rfl | rfl | rfl <;> cases hx
      · exact odd5_addr h hx
    · rcases List.mem_cons.1 hx with hx | hx
      · rcases h with rfl | rfl | rfl | rfl | rfl <;> cases hx
      · exact odd5_dec h hx
theorem odd5_pref {a : AddrM} {q : Int} {c : UInt8} (h : odd5 c) : c ∉ prefT a q := by
  intro hx
  unfold prefT at hx
  split at hx
  · simp at hx
  · rcases List.mem_append.1 hx with hx | hx
    · exact odd5_addr h hx
    · rcases List.mem_cons.1 hx with hx | hx
      · rcases h with rfl | rfl | rfl | rfl | rfl <;> cases hx
      · exact odd5_dec h hx
theorem tight_of {l : List UInt8} (h : ∀ c, odd5 c → c ∉ l) : tight l := by
  have key : ∀ a ∈ l, bl2.contains a = false := fun a ha => by
    have h1 : a ≠ 32 := fun e => h 32 (.inr (.inl rfl)) (e ▸ ha)
    have h2 : a ≠ 9 := fun e => h 9 (.inr (.inr (.inl rfl))) (e ▸ ha)
    simp [bl2, h1, h2]
  exact ⟨fun a ha => key a (List.mem_of_head? ha), fun a ha => key a (List.mem_of_getLast? ha)⟩
theorem valOk_of {l : List UInt8} (h : ∀ c, odd5 c → c ∉ l) : valOk l := ⟨h 10 (.inl rfl), .inl (h 61 (.inr (.inr (.inr (.inl rfl)))))⟩
theorem key_val (k : List UInt8) : valOk (textL k) ∧ textL k ≠ [] ∧ tight (textL k) := by
  have hb := textL_bytes k
  refine ⟨⟨fun h => (hb _ h).1 rfl, .inr fun h => (hb _ h).2.1 rfl⟩, fun h => (by have := textL_length k; rw [h] at this; cases this), fun a ha => ?_, fun a ha => ?_⟩
  · have := hb a (List.mem_of_head? ha); simp [bl2, this.2.1, this.2.2]
  · have := hb a (List.mem_of_getLast? ha); simp [bl2, this.2.1, this.2.2]
/-! ### the list of prefixes -/
theorem join_cons2 (a b : List UInt8) (r : List (List UInt8)) : Lib.join (a :: b :: r) [44, 32] = a ++ 44 :: (32 :: Lib.join (b :: r) [44, 32]) := by
  simp [Lib.join, List.intercalate, List.intersperse]
theorem allM_lead : ∀ (xs : List (List UInt8)) (b : List UInt8), xs ≠ [] → (∀ x ∈ xs, (44 : UInt8) ∉ x ∧ tight x) → (b = [] ∨ b = [32]) → allM (b ++ Lib.join xs [44, 32]) = xs
  | [], _, h, _, _ => absurd rfl h
  | [a], b, _, h, hb => by
    have ha := h a (List.mem_cons_self ..)
    have hbl : blank b := by
      rcases hb with rfl | rfl
      · exact blank_nil
      · exact blank_one (by decide)
    have e : Lib.join [a] [44, 32] = a := by simp [Lib.join, List.intercalate, List.intersperse]
    have hn : (44 : UInt8) ∉ b ++ a := fun hx => by
      rcases List.mem_append.1 hx with h | h
      · rcases hb with rfl | rfl <;> simp at h
      · exact ha.1 h
    have ht := trim_tight (b := b) (t := []) hbl blank_nil ha.2
    rw [List.append_nil] at ht
    rw [allM, e, split_none hn, List.map_singleton, ht]
  | a :: c :: r, b, _, h, hb => by
    have ha := h a (List.mem_cons_self ..)
    have hbl : blank b := by
      rcases hb with rfl | rfl
      · exact blank_nil
      · exact blank_one (by decide)
    have hn : (44 : UInt8) ∉ b ++ a := fun hx => by
      rcases List.mem_append.1 hx with h | h
      · rcases hb with rfl | rfl <;> simp at h
      · exact ha.1 h
    have ih := allM_lead (c :: r) [32] (by simp) (fun x hx => h x (List.mem_cons_of_mem _ hx)) (.inr rfl)
    have ht := trim_tight (b := b) (t := []) hbl blank_nil ha.2
    rw [List.append_nil] at ht
    rw [join_cons2, ← List.append_assoc, allM, split_at hn, List.map_cons, ht]
    show a :: allM ([32] ++ Lib.join (c :: r) [44, 32]) = _
    rw [ih]
theorem pref_of_back {q : AddrM × Int} (hq : q.1.ok ∧ inI64 q.2) (hv : validM q.1 q.2 = true) : (prefP (prefT q.1 q.2)).2 = 0 ∧ prefOf (prefT q.1 q.2) = q := by
  have hb : 0 ≤ q.2 ∧ q.2 ≤ 128 := by
    unfold validM at hv
    simp only [Bool.and_eq_true, decide_eq_true_eq] at hv
    refine ⟨hv.2.1, ?_⟩
    have := hv.2.2.1
    unfold widthM at this
    split at this <;> omega
  obtain ⟨n, hn⟩ : ∃ n : Nat, q.2 = (n : Int) := ⟨q.2.toNat, by omega⟩
  rw [hn] at hv
  have h := pref_back q.1 hq.1 n (by omega) hv
  rw [← hn] at h
  refine ⟨by rw [h], ?_⟩
  rw [prefOf, h]
  exact Prod.ext rfl hn.symm
theorem prefs_back {al : List (AddrM × Int)} (hal : al ≠ []) (ho : ∀ q ∈ al, q.1.ok ∧ inI64 q.2) (hv : ∀ q ∈ al, validM q.1 q.2 = true) : prefsM (allM (psT al)) = some al := by
  have e := allM_lead (al.map fun q => prefT q.1 q.2) [] (by simpa using hal) (fun x hx => by
    obtain ⟨q, _, rfl⟩ := List.mem_map.1 hx
    exact ⟨odd5_pref (.inr (.inr (.inr (.inr rfl)))), tight_of fun c hc => odd5_pref hc⟩) (.inl rfl)
  rw [List.nil_append] at e
  rw [psT, e, prefsM, if_pos (by
    rw [List.all_eq_true]
    intro x hx
    obtain ⟨q, hq, rfl⟩ := List.mem_map.1 hx
    rw [(pref_of_back (ho q hq) (hv q hq)).1]
    rfl), List.map_map]
  congr 1
  refine (List.map_congr_left (g := id) fun q hq => ?_).trans (List.map_id _)
  exact (pref_of_back (ho q hq) (hv q hq)).2
theorem prefT_ne {q : AddrM × Int} (hv : validM q.1 q.2 = true) : prefT q.1 q.2 ≠ [] := by
  rw [prefT, hv, if_neg (by simp)]
  simp
theorem join_last : ∀ (xs : List (List UInt8)), xs ≠ [] → (∀ x ∈ xs, x ≠ []) → (Lib.join xs [44, 32]).getLast? = (xs.getLast?.getD []).getLast? ∧ (Lib.join xs [44, 32]).head? = (xs.head?.getD []).head?
  | [], h, _ => absurd rfl h
  | [a], _, _ => by simp [Lib.join, List.intercalate, List.intersperse]
  | a :: b :: r, _, h => by
    have ih := join_last (b :: r) (by simp) (fun x hx => h x (List.mem_cons_of_mem _ hx))
    have ha : a ≠ [] := h a (List.mem_cons_self ..)
    have hl : (b :: r).getLast?.getD [] ≠ [] := by
      rw [List.getLast?_eq_some_getLast (List.cons_ne_nil b r)]
      exact h _ (List.mem_cons_of_mem _ (List.getLast_mem _))
    rw [join_cons2]
    refine ⟨?_, ?_⟩
    · rw [List.getLast?_append, List.getLast?_cons_cons, List.getLast?_cons, ih.1]
      cases hg : ((b :: r).getLast?.getD []).getLast? with
      | none => exact absurd (List.getLast?_eq_none_iff.1 hg) hl
      | some x =>
        rw [List.getLast?_cons_cons, hg]
        rfl
    · cases a with
      | nil => exact absurd rfl ha
      | cons x xs => rfl
theorem ps_val {al : List (AddrM × Int)} (hal : al ≠ []) (hv : ∀ q ∈ al, validM q.1 q.2 = true) : valOk (psT al) ∧ psT al ≠ [] ∧ tight (psT al) := by
  have hne : al.map (fun q => prefT q.1 q.2) ≠ [] := by simpa using hal
  have hx0 : ∀ x ∈ al.map (fun q => prefT q.1 q.2), x ≠ [] := fun x hx => by
    obtain ⟨q, hq, rfl⟩ := List.mem_map.1 hx
    exact prefT_ne (hv q hq)
  have hmem : ∀ (xs : List (List UInt8)) (c : UInt8), c ∈ Lib.join xs [44, 32] → c = 44 ∨ c = 32 ∨ ∃ x ∈ xs, c ∈ x := by
    intro xs
    induction xs with
    | nil => intro c h; simp [Lib.join, List.intercalate, List.intersperse] at h
    | cons a r ih =>
      intro c h
      cases r with
      | nil =>
        rw [show Lib.join [a] [44, 32] = a from by simp [Lib.join, List.intercalate, List.intersperse]] at h
        exact .inr (.inr ⟨a, List.mem_cons_self .., h⟩)
      | cons b r =>
        rw [join_cons2] at h
        simp only [List.mem_append, List.mem_cons] at h
        rcases h with h | h | h | h
        · exact .inr (.inr ⟨a, List.mem_cons_self .., h⟩)
        · exact .inl h
        · exact .inr (.inl h)
        · rcases ih c h with h | h | ⟨x, hx, hc⟩
          · exact .inl h
          · exact .inr (.inl h)
          · exact .inr (.inr ⟨x, List.mem_cons_of_mem _ hx, hc⟩)
  have hno : ∀ c, c = 10 ∨ c = 61 → c ∉ psT al := fun c hc h => by
    rcases hmem _ c h with h | h | ⟨x, hx, hcx⟩
    · rcases hc with rfl | rfl <;> cases h
    · rcases hc with rfl | rfl <;> cases h
    · obtain ⟨q, _, rfl⟩ := List.mem_map.1 hx
      exact odd5_pref (by rcases hc with rfl | rfl; exact .inl rfl; exact .inr (.inr (.inr (.inl rfl)))) hcx
  have hjl := join_last _ hne hx0
  have hin : ∀ x ∈ al.map (fun q => prefT q.1 q.2), tight x := fun x hx => by
    obtain ⟨q, _, rfl⟩ := List.mem_map.1 hx
    exact tight_of fun c hc => odd5_pref hc
  refine ⟨⟨hno 10 (.inl rfl), .inl (hno 61 (.inr rfl))⟩, fun h => ?_, fun a ha => ?_, fun a ha => ?_⟩
  · have h2 := hjl.2
    rw [show Lib.join (al.map fun q => prefT q.1 q.2) [44, 32] = [] from h] at h2
    cases hm : al.map (fun q => prefT q.1 q.2) with
    | nil => exact hne hm
    | cons x r =>
      rw [hm] at h2 hx0
      have := hx0 x (List.mem_cons_self ..)
      cases x with
      | nil => exact this rfl
      | cons y ys => simp at h2
  · rw [psT, hjl.2] at ha
    cases hm : al.map (fun q => prefT q.1 q.2) with
    | nil => exact absurd hm hne
    | cons x r =>
      rw [hm] at ha hin
      exact (hin x (List.mem_cons_self ..)).1 a (by simpa using ha)
  · rw [psT, hjl.1] at ha
    cases hm : (al.map fun q => prefT q.1 q.2).getLast? with
    | none => exact absurd (List.getLast?_eq_none_iff.1 hm) hne
    | some x =>
      rw [hm] at ha
      exact (hin x (List.mem_of_getLast? hm)).2 a (by simpa using ha)
/-! ### the lines of a configuration -/
def peerL (p : PeerM) : List Ln :=
  .plain [] :: .plain tPeer :: .ent tPub (textL p.pub) :: ((if p.sha = List.replicate 32 0 then [] else [.ent tSha (textL p.sha)]) ++ ((if p.hasE then [.ent tEnd (endT p.ea p.ep)] else []) ++ ((if p.keep = 0 then [] else [.ent tKeep (decT p.keep.toNat)]) ++ (if p.al.length = 0 then [] else [.ent tAll (psT p.al)]))))
def confL (c : ConfM) : List Ln := .plain tIface :: .ent tPriv (textL c.priv) :: .ent tPort (decT c.port.toNat) :: c.peers.flatMap peerL
theorem peerL_text (p : PeerM) : (peerL p).map Ln.text = peerT p := by
  unfold peerL peerT
  have hi : ∀ (b : Prop) [Decidable b] (x : Ln), List.map Ln.text (if b then [] else [x]) = if b then [] else [x.text] := fun b _ x => by split <;> rfl
  have hi2 : ∀ (b : Bool) (x : Ln), List.map Ln.text (if b = true then [x] else []) = if b = true then [x.text] else [] := fun b x => by split <;> rfl
  simp only [List.map_cons, List.map_append, hi, hi2, Ln.text, entT]
theorem confL_text (c : ConfM) : fmtM c = (confL c).flatMap fun l => l.text ++ [10] := by
  have h : (confL c).map Ln.text = confT c := by
    simp only [confL, confT, List.map_cons, List.map_flatMap, Ln.text, entT, peerL_text]
  rw [fmtM, ← h, List.flatMap_map]
theorem name_good {N : List UInt8} (V : List UInt8) (h : (61 : UInt8) ∉ N ∧ (10 : UInt8) ∉ N ∧ N ≠ [] ∧ N.head? ≠ some 35 ∧ tight N) (hv : valOk V ∧ V ≠ [] ∧ tight V) : (Ln.ent N V).good := ⟨h.1, h.2.1, h.2.2.1, h.2.2.2.1, h.2.2.2.2, hv.1, hv.2.1, hv.2.2⟩
theorem nm (N : List UInt8) (h : (decide ((61 : UInt8) ∉ N) && decide ((10 : UInt8) ∉ N) && decide (N ≠ []) && decide (N.head? ≠ some 35) && decide (bl2.contains (N.head?.getD 0) = false) && decide (bl2.contains (N.getLast?.getD 0) = false)) = true) : (61 : UInt8) ∉ N ∧ (10 : UInt8) ∉ N ∧ N ≠ [] ∧ N.head? ≠ some 35 ∧ tight N := by
  simp only [Bool.and_eq_true, decide_eq_true_eq] at h
  obtain ⟨⟨⟨⟨⟨h1, h2⟩, h3⟩, h4⟩, h5⟩, h6⟩ := h
  exact ⟨h1, h2, h3, h4, fun a ha => by rw [ha] at h5; exact h5, fun a ha => by rw [ha] at h6; exact h6⟩
theorem dec_val (n : Nat) : valOk (decT n) ∧ decT n ≠ [] ∧ tight (decT n) := ⟨valOk_of fun _ hc => odd5_dec hc, decT_ne n, tight_of fun _ hc => odd5_dec hc⟩
theorem peer_good {p : PeerM} (hr : rightP p = true) : ∀ l ∈ peerL p, l.good := by
  have hr2 := hr
  simp only [rightP, Bool.and_eq_true, List.all_eq_true] at hr2
  obtain ⟨⟨he, _⟩, hv⟩ := hr2
  intro l hl
  simp only [peerL, List.mem_cons, List.mem_append] at hl
  rcases hl with rfl | rfl | rfl | hl | hl | hl | hl
  · exact ⟨by simp, by simp, by simp [tight]⟩
  · have := nm tPeer (by decide)
    exact ⟨this.1, this.2.1, this.2.2.2.2⟩
  · exact name_good _ (nm tPub (by decide)) (key_val _)
  · split at hl
    · simp at hl
    · rw [List.mem_singleton.1 hl]
      exact name_good _ (nm tSha (by decide)) (key_val _)
  · split at hl
    · rename_i hE
      rw [List.mem_singleton.1 hl]
      refine name_good _ (nm tEnd (by decide)) ⟨valOk_of fun _ hc => odd5_end hc, fun h => ?_, tight_of fun _ hc => odd5_end hc⟩
      rw [rightE, if_pos hE, h] at he
      simp at he
    · simp at hl
  · split at hl
    · simp at hl
    · rw [List.mem_singleton.1 hl]
      exact name_good _ (nm tKeep (by decide)) (dec_val _)
  · split at hl
    · simp at hl
    · rename_i h0
      rw [List.mem_singleton.1 hl]
      exact name_good _ (nm tAll (by decide)) (ps_val (fun h => h0 (by rw [h]; rfl)) hv)
theorem conf_good {c : ConfM} (hr : c.peers.all rightP = true) : ∀ l ∈ confL c, l.good := by
  intro l hl
  simp only [confL, List.mem_cons, List.mem_flatMap] at hl
  rcases hl with rfl | rfl | rfl | ⟨p, hp, hl⟩
  · have := nm tIface (by decide)
    exact ⟨this.1, this.2.1, this.2.2.2.2⟩
  · exact name_good _ (nm tPriv (by decide)) (key_val _)
  · exact name_good _ (nm tPort (by decide)) (dec_val _)
  · exact peer_good (List.all_eq_true.1 hr p hp) l hl
/-! ### what they stand for -/
def upd (c : ConfM) (done : List PeerM) (q : PeerM) : ConfM := { c with peers := done ++ [q] }
theorem entry_peer {c : ConfM} {done : List PeerM} {q r : PeerM} {S : List (List UInt8)} {N V : List UInt8} (hn : S.contains N = false) (h : peerM q N V = some r) : entryM ⟨upd c done q, some S⟩ N V = some ⟨upd c done r, some (N :: S)⟩ := by
  have e : (upd c done q).peers.getLast? = some q := by simp [upd]
  simp only [entryM]
  rw [if_neg (by rw [hn]; simp), e]
  simp only [h, Option.map_some]
  simp [upd]
theorem endOk_some {c : ConfM} {S : List (List UInt8)} (h : c.peers.isEmpty = false) (hs : S.contains tPub = true) : endOk ⟨c, some S⟩ = true := by
  unfold endOk
  simp only
  rw [if_neg (by rw [h]; simp)]
  exact hs
theorem endOk_zero {c : ConfM} {S : List (List UInt8)} (h : c.peers.isEmpty = true) (h1 : S.contains tPriv = true) (h2 : S.contains tPort = true) : endOk ⟨c, some S⟩ = true := by
  unfold endOk
  simp only
  rw [if_pos h, h1, h2]
  rfl
theorem run_peer {c : ConfM} {done : List PeerM} {S : List (List UInt8)} {p : PeerM} (hd : c.peers = done) (he : endOk ⟨c, some S⟩ = true) (ho : p.ok) (hr : rightP p = true) :
    ∃ S', runL ⟨c, some S⟩ (peerL p) = some ⟨upd c done p, some S'⟩ ∧ endOk ⟨upd c done p, some S'⟩ = true := by
  have hr2 := hr
  simp only [rightP, Bool.and_eq_true, List.all_eq_true] at hr2
  obtain ⟨⟨hre, hrk⟩, hv⟩ := hr2
  have h0 : (Ln.plain []).eff ⟨c, some S⟩ = some ⟨c, some S⟩ := by show lineM _ [] = _; rw [lineM, if_pos (.inl rfl)]
  have h1 : (Ln.plain tPeer).eff ⟨c, some S⟩ = some ⟨upd c done peer0, some []⟩ := by
    show lineM _ tPeer = _
    rw [lineM, if_neg (by decide), if_neg (by decide), if_pos rfl, if_pos he]
    simp only [upd, hd]
  -- the public key
  let p1 : PeerM := { peer0 with pub := p.pub }
  have h2 : entryM ⟨upd c done peer0, some []⟩ tPub (textL p.pub) = some ⟨upd c done p1, some [tPub]⟩ := entry_peer rfl (by rw [peerM, if_pos rfl, parse_text _ ho.1]; rfl)
  -- the shared key
  let p2 : PeerM := { p1 with sha := p.sha }
  obtain ⟨S2, hS2, hc2, h3⟩ : ∃ S2, (tPub ∈ S2 ∧ S2.contains tEnd = false ∧ S2.contains tKeep = false ∧ S2.contains tAll = false) ∧ True ∧ runL ⟨upd c done p1, some [tPub]⟩ (if p.sha = List.replicate 32 0 then [] else [.ent tSha (textL p.sha)]) = some ⟨upd c done p2, some S2⟩ := by
    by_cases hs : p.sha = List.replicate 32 0
    · refine ⟨[tPub], ⟨by decide, by decide, by decide, by decide⟩, trivial, ?_⟩
      rw [if_pos hs, runL, show p2 = p1 from by simp [p2, p1, peer0, hs]]
    · refine ⟨[tSha, tPub], ⟨by decide, by decide, by decide, by decide⟩, trivial, ?_⟩
      rw [if_neg hs, runL, show (Ln.ent tSha (textL p.sha)).eff ⟨upd c done p1, some [tPub]⟩ = some ⟨upd c done p2, some [tSha, tPub]⟩ from entry_peer (c := c) (done := done) (q := p1) (r := p2) (S := [tPub]) (N := tSha) (V := textL p.sha) (by decide) (by rw [peerM, if_neg (by decide), if_pos rfl, parse_text _ ho.2.1]; rfl)]
      rfl
  -- the endpoint
  let p3 : PeerM := { p2 with hasE := p.hasE, ea := p.ea, ep := p.ep }
  obtain ⟨S3, hS3, h4⟩ : ∃ S3, (tPub ∈ S3 ∧ S3.contains tKeep = false ∧ S3.contains tAll = false) ∧ runL ⟨upd c done p2, some S2⟩ (if p.hasE then [.ent tEnd (endT p.ea p.ep)] else []) = some ⟨upd c done p3, some S3⟩ := by
    by_cases hE : p.hasE = true
    · refine ⟨tEnd :: S2, ⟨List.mem_cons_of_mem _ hS2.1, by rw [List.contains_cons, hS2.2.2.1]; decide, by rw [List.contains_cons, hS2.2.2.2]; decide⟩, ?_⟩
      have hne : endT p.ea p.ep ≠ [] := fun h => by rw [rightE, if_pos hE, h] at hre; simp at hre
      have hb : endP (endT p.ea p.ep) = ((p.ea, p.ep.toNat), 0) ∧ p.ep = (p.ep.toNat : Int) := by
        have h5 := hne
        unfold endT at h5
        rw [if_neg] at h5
        · unfold endT at hne
          have hcond : ¬(addrT p.ea = [] ∨ p.ep < 1 ∨ 65535 < p.ep) := fun h => hne (if_pos h)
          have hsd : soundM p.ea = true := by
            cases hs : soundM p.ea with
            | true => rfl
            | false => exact absurd (show addrT p.ea = [] from by rw [addrT, if_pos hs]) (fun h => hcond (.inl h))
          have hp1 : 1 ≤ p.ep ∧ p.ep ≤ 65535 := by omega
          have e := end_back p.ea ho.2.2.1 hsd p.ep.toNat (by omega) (by omega)
          rw [show (p.ep.toNat : Int) = p.ep from by omega] at e
          exact ⟨e, by omega⟩
        · exact fun h => hne (if_pos h)
      rw [if_pos hE, runL, show (Ln.ent tEnd (endT p.ea p.ep)).eff ⟨upd c done p2, some S2⟩ = some ⟨upd c done p3, some (tEnd :: S2)⟩ from entry_peer hS2.2.1 (by
        rw [peerM, if_neg (by decide), if_neg (by decide), if_pos rfl, hb.1, if_pos rfl]
        simp only [p3]
        rw [← hb.2, hE])]
      rfl
    · have hE2 : p.hasE = false := by simpa using hE
      refine ⟨S2, ⟨hS2.1, hS2.2.2.1, hS2.2.2.2⟩, ?_⟩
      rw [rightE, if_neg hE] at hre
      have hz := of_decide_eq_true hre
      rw [if_neg hE, runL, show p3 = p2 from by simp only [p3, p2, p1, peer0]; rw [hz.1, hz.2, hE2]]
  -- the keepalive
  let p4 : PeerM := { p3 with keep := p.keep }
  obtain ⟨S4, hS4, h5⟩ : ∃ S4, (tPub ∈ S4 ∧ S4.contains tAll = false) ∧ runL ⟨upd c done p3, some S3⟩ (if p.keep = 0 then [] else [.ent tKeep (decT p.keep.toNat)]) = some ⟨upd c done p4, some S4⟩ := by
    by_cases hk : p.keep = 0
    · refine ⟨S3, ⟨hS3.1, hS3.2.2⟩, ?_⟩
      rw [if_pos hk, runL, show p4 = p3 from by simp only [p4, p3, p2, p1, peer0]; rw [hk]]
    · refine ⟨tKeep :: S3, ⟨List.mem_cons_of_mem _ hS3.1, by rw [List.contains_cons, hS3.2.2]; decide⟩, ?_⟩
      have hkr : 1000 ≤ p.keep ∧ p.keep ≤ 1073741824 := by
        unfold rightK at hrk
        simp only [Bool.or_eq_true, Bool.and_eq_true, decide_eq_true_eq, beq_iff_eq] at hrk
        omega
      have hn := numP_dec p.keep.toNat 10 (by omega) (by omega)
      rw [if_neg hk, runL, show (Ln.ent tKeep (decT p.keep.toNat)).eff ⟨upd c done p3, some S3⟩ = some ⟨upd c done p4, some (tKeep :: S3)⟩ from entry_peer hS3.2.1 (by
        rw [peerM, if_neg (by decide), if_neg (by decide), if_neg (by decide), if_pos rfl, hn, if_pos rfl]
        simp only [p4]
        rw [show (p.keep.toNat : Int) = p.keep from by omega])]
      rfl
  -- the prefixes
  obtain ⟨S5, hS5, h6⟩ : ∃ S5, tPub ∈ S5 ∧ runL ⟨upd c done p4, some S4⟩ (if p.al.length = 0 then [] else [.ent tAll (psT p.al)]) = some ⟨upd c done p, some S5⟩ := by
    by_cases ha : p.al.length = 0
    · refine ⟨S4, hS4.1, ?_⟩
      have hal : p.al = [] := List.eq_nil_of_length_eq_zero ha
      have e : p4 = p := by
        obtain ⟨pub, sha, hasE, ea, ep, keep, al⟩ := p
        simp only at hal
        subst hal
        rfl
      rw [if_pos ha, runL, e]
    · refine ⟨tAll :: S4, List.mem_cons_of_mem _ hS4.1, ?_⟩
      have hb := prefs_back (al := p.al) (fun h => ha (by rw [h]; rfl)) ho.2.2.2.2.2 hv
      rw [if_neg ha, runL, show (Ln.ent tAll (psT p.al)).eff ⟨upd c done p4, some S4⟩ = some ⟨upd c done p, some (tAll :: S4)⟩ from entry_peer hS4.2 (by
        rw [peerM, if_neg (by decide), if_neg (by decide), if_neg (by decide), if_neg (by decide), if_pos rfl, hb]
        rfl)]
      rfl
  refine ⟨S5, ?_, ?_⟩
  · rw [peerL, runL, h0]
    simp only
    rw [runL, h1]
    simp only
    rw [runL, show (Ln.ent tPub (textL p.pub)).eff ⟨upd c done peer0, some []⟩ = entryM ⟨upd c done peer0, some []⟩ tPub (textL p.pub) from rfl, h2]
    simp only
    rw [runL_append, h3]
    simp only
    rw [runL_append, h4]
    simp only
    rw [runL_append, h5]
    exact h6
  · exact endOk_some (by simp [upd]) (List.contains_iff_mem.2 hS5)
theorem run_peers : ∀ (ps done : List PeerM) (c : ConfM) (S : List (List UInt8)), c.peers = done → endOk ⟨c, some S⟩ = true → (∀ p ∈ ps, p.ok) → (∀ p ∈ ps, rightP p = true) → ∃ S', runL ⟨c, some S⟩ (ps.flatMap peerL) = some ⟨{ c with peers := done ++ ps }, some S'⟩ ∧ endOk ⟨{ c with peers := done ++ ps }, some S'⟩ = true
  | [], done, c, S, hd, he, _, _ => ⟨S, by
    rw [List.flatMap_nil, runL, List.append_nil, ← hd], by rw [List.append_nil, ← hd]; exact he⟩
  | p :: r, done, c, S, hd, he, ho, hr => by
    obtain ⟨S1, h1, h2⟩ := run_peer hd he (ho p (List.mem_cons_self ..)) (hr p (List.mem_cons_self ..))
    obtain ⟨S2, h3, h4⟩ := run_peers r (done ++ [p]) (upd c done p) S1 rfl h2 (fun q hq => ho q (List.mem_cons_of_mem _ hq)) (fun q hq => hr q (List.mem_cons_of_mem _ hq))
    have e : ({ upd c done p with peers := (done ++ [p]) ++ r } : ConfM) = { c with peers := done ++ p :: r } := by simp [upd]
    rw [e] at h3 h4
    exact ⟨S2, by rw [List.flatMap_cons, runL_append, h1]; exact h3, h4⟩
theorem valid_parts {c : ConfM} (hv : validE c = 0) : 0 ≤ c.port ∧ c.port ≤ 65535 ∧ c.peers.all rightP = true := by
  unfold validE at hv
  split at hv
  · cases hv
  · split at hv
    · cases hv
    · rename_i h
      refine ⟨by omega, by omega, ?_⟩
      cases hb : c.peers.all rightP with
      | true => rfl
      | false => exact absurd hb (fun e => h (.inr (.inr e)))
theorem run_conf {c : ConfM} (ho : c.ok) (hv : validE c = 0) : ∃ S, runL ps0 (confL c) = some ⟨c, some S⟩ ∧ endOk ⟨c, some S⟩ = true := by
  obtain ⟨h1, h2, h3⟩ := valid_parts hv
  have e1 : (Ln.plain tIface).eff ps0 = some ⟨conf0, some []⟩ := lim_l1
  let c1 : ConfM := ⟨c.priv, 0, []⟩
  have e2 : entryM ⟨conf0, some []⟩ tPriv (textL c.priv) = some ⟨c1, some [tPriv]⟩ := by
    simp [entryM, ifaceM, parse_text c.priv ho.1, conf0, c1]
  let c2 : ConfM := ⟨c.priv, c.port, []⟩
  have hn := numP_dec c.port.toNat 10 (by omega) (by omega)
  have e3 : entryM ⟨c1, some [tPriv]⟩ tPort (decT c.port.toNat) = some ⟨c2, some [tPort, tPriv]⟩ := by
    have hc : ([tPriv] : List (List UInt8)).contains tPort = false := by decide
    have hp : (tPort = tPriv) = False := by simp [tPort, tPriv]
    have hq : (c.port.toNat : Int) = c.port := by omega
    simp [entryM, ifaceM, hn, hp, c1, c2]
    omega
  obtain ⟨S, h4, h5⟩ := run_peers c.peers [] c2 [tPort, tPriv] rfl (endOk_zero rfl (by decide) (by decide)) ho.2.2 (fun p hp => List.all_eq_true.1 h3 p hp)
  have e : ({ c2 with peers := [] ++ c.peers } : ConfM) = c := by simp [c2]
  rw [e] at h4 h5
  refine ⟨S, ?_, h5⟩
  rw [confL, runL, e1]
  simp only
  rw [runL, show (Ln.ent tPriv (textL c.priv)).eff ⟨conf0, some []⟩ = _ from e2]
  simp only
  rw [runL, show (Ln.ent tPort (decT c.port.toNat)).eff ⟨c1, some [tPriv]⟩ = _ from e3]
  exact h4
/-- the text of a valid configuration, whatever is added to it, stands for the configuration -/
theorem parse_back {c : ConfM} (ho : c.ok) (hv : validE c = 0) (sp : List UInt8) : parseCf (chgM sp (fmtM c)) = some c := by
  obtain ⟨S, h1, h2⟩ := run_conf ho hv
  have h := run_chg (confL c) sp [] ps0 (conf_good (valid_parts hv).2.2) blank_nil
  rw [List.nil_append, ← confL_text, h1] at h
  rw [parseCf, h]
  simp only
  rw [if_pos h2]
end Go.Proofs.YtcbfchkhbngpkaaGreatDoor
namespace Go.Proofs.YtcbfchkhbngpkaaGreatDoor
open Go.RowKit

theorem allM_len (v : List UInt8) : (allM v).length ≤ v.length + 1 := by
  rw [allM, List.length_map]
  exact split_len 44 v
theorem peerM_al {p q : PeerM} {N V : List UInt8} (h : peerM p N V = some q) : q.al = p.al ∨ q.al.length ≤ p.al.length + V.length + 1 := by
  rcases peerM_cases h with ⟨_, k, _, rfl⟩ | ⟨_, k, _, rfl⟩ | ⟨_, _, rfl⟩ | ⟨_, _, rfl⟩ | ⟨_, _, rfl⟩
  · exact .inl rfl
  · exact .inl rfl
  · exact .inl rfl
  · exact .inl rfl
  · refine .inr ?_
    have := allM_len V
    simp only [List.length_append, List.length_map]
    omega
/-- what is read so far is not too great -/
def Few (k : Nat) (s : PsM) : Prop := s.conf.peers.length ≤ k ∧ ∀ p ∈ s.conf.peers, p.al.length ≤ k
theorem Few.mono {k m : Nat} {s : PsM} (h : Few k s) (hm : k ≤ m) : Few m s := ⟨Nat.le_trans h.1 hm, fun p hp => Nat.le_trans (h.2 p hp) hm⟩
theorem iface_peers {c d : ConfM} {N V : List UInt8} (h : ifaceM c N V = some d) : d.peers = c.peers := by
  unfold ifaceM at h
  split at h
  · cases hk : parseK V with
    | none => rw [hk] at h; cases h
    | some k => rw [hk] at h; injection h with h; rw [← h]
  · split at h
    · split at h
      · injection h with h; rw [← h]
      · cases h
    · cases h
theorem entryM_few {s t : PsM} {N V : List UInt8} {k : Nat} (hf : Few k s) (h : entryM s N V = some t) : Few (k + V.length + 1) t := by
  rcases List.eq_nil_or_concat s.conf.peers with hpe | ⟨done, p, hpe⟩
  · unfold entryM at h
    cases hs : s.seen with
    | none => rw [hs] at h; cases h
    | some S =>
      rw [hs] at h
      simp only [hpe, List.getLast?_nil] at h
      split at h
      · cases h
      · cases hi : ifaceM s.conf N V with
        | none => rw [hi] at h; cases h
        | some c =>
          rw [hi] at h
          simp only [Option.map_some, Option.some.injEq] at h
          subst h
          have hc := iface_peers hi
          refine Few.mono (k := k) ?_ (by omega)
          exact ⟨by show c.peers.length ≤ k; rw [hc]; exact hf.1, by show ∀ p ∈ c.peers, _; rw [hc]; exact hf.2⟩
  · have hpe2 : s.conf.peers = done ++ [p] := by simpa using hpe
    obtain ⟨S, q, _, _, hq, rfl⟩ := entry_peer_cases hpe2 h
    have h1 := hf.1
    have h2 := hf.2
    rw [hpe2] at h1 h2
    refine ⟨by simp at h1 ⊢; omega, fun x hx => ?_⟩
    rcases List.mem_append.1 hx with hx | hx
    · exact Nat.le_trans (h2 x (List.mem_append_left _ hx)) (by omega)
    · rw [List.mem_singleton.1 hx]
      have := h2 p (by simp)
      rcases peerM_al hq with e | e
      · rw [e]; omega
      · omega
theorem lineM_few {s t : PsM} {l : List UInt8} {k : Nat} (hf : Few k s) (h : lineM s l = some t) : Few (k + l.length + 1) t := by
  have hk : Few (k + l.length + 1) s := hf.mono (by omega)
  unfold lineM at h
  by_cases h1 : l = [] ∨ l.head? = some 35
  · rw [if_pos h1] at h
    injection h with h
    subst h
    exact hk
  · rw [if_neg h1] at h
    by_cases h2 : l = tIface
    · rw [if_pos h2] at h
      split at h
      · injection h with h
        subst h
        exact ⟨hk.1, hk.2⟩
      · cases h
    · rw [if_neg h2] at h
      by_cases h5 : l = tPeer
      · rw [if_pos h5] at h
        by_cases h6 : endOk s = true
        · rw [if_pos h6] at h
          injection h with h
          subst h
          refine ⟨by have := hf.1; simp; omega, fun x hx => ?_⟩
          rcases List.mem_append.1 hx with hx | hx
          · exact hk.2 x hx
          · rw [List.mem_singleton.1 hx]; simp [peer0]
        · rw [if_neg h6] at h; cases h
      · rw [if_neg h5] at h
        by_cases h4 : (Lib.cut l [61]).2.2 = true
        · rw [if_pos h4] at h
          have hle := cut_le l [61]
          have hv := trimL_le (Lib.cut l [61]).2.1 bl2
          exact (entryM_few hf h).mono (by omega)
        · rw [if_neg h4] at h; cases h
/-- the bytes of lines, with their ends -/
def sumL : List (List UInt8) → Nat
  | [] => 0
  | a :: r => a.length + 1 + sumL r
theorem sum_split (c : UInt8) : ∀ (k : Nat) (l : List UInt8), l.length ≤ k → sumL (splitB c l) = l.length + 1
  | 0, l, h => by
    obtain rfl : l = [] := List.eq_nil_of_length_eq_zero (by omega)
    rfl
  | k + 1, l, h => by
    rcases index_at c l with ⟨h1, _⟩ | ⟨a, r, rfl, h2, _⟩
    · rw [split_none h1]; rfl
    · rw [split_at h2, sumL, sum_split c k r (by simp at h; omega)]
      simp
      omega
theorem sum_dropLast : ∀ ls : List (List UInt8), sumL ls.dropLast ≤ sumL ls
  | [] => Nat.le_refl _
  | [a] => by simp [sumL]
  | a :: b :: r => by
    have h := sum_dropLast (b :: r)
    rw [List.dropLast_cons_cons, sumL, sumL]
    omega
theorem run_okB : ∀ (ls : List (List UInt8)) (s : PsM) (k : Nat), k + sumL ls ≤ 100000 → Few k s → RunOk okB s ls
  | [], _, _, _, _ => trivial
  | a :: r, s, k, hm, hf => by
    have hta := trim_le a bl2
    rw [sumL] at hm
    refine ⟨⟨by have := hf.1; omega, fun p hp => Nat.le_trans (hf.2 p hp) (by omega)⟩, fun t ht => ?_⟩
    exact run_okB r t (k + a.length + 1) (by omega) ((lineM_few hf ht).mono (by omega))
theorem text_okB {T : List UInt8} (h : T.length ≤ 4000) : RunOk okB ps0 (linesB T) := by
  have h1 := sum_split 10 T.length T (Nat.le_refl _)
  have h2 := sum_dropLast (splitB 10 T)
  refine run_okB _ _ 0 ?_ ⟨by simp [ps0, conf0], by simp [ps0, conf0]⟩
  unfold linesB
  split <;> omega
/-- the text of a configuration, with what is added, is read -/
theorem parse_chg (c : ConfM) (sp : List UInt8) (w : World) (hlv : LvCf w) (hc : c.ok) (hv : validE c = 0) (hl : (chgM sp (fmtM c)).length ≤ 4000) :
    Calls Tryz.prog 14 #[.string ⟨(chgM sp (fmtM c)).toArray⟩] w fun e w' => ∃ A cap, e = .returned (.tuple #[.agg (c.cells (.slice A c.peers.length cap)).toArray, .int .i64 0, .int .i64 0]) ∧ PeRd w' w'.heap.size A c.peers.length c.peers ∧ c.ok ∧ Below w.heap.size w w' := by
  obtain ⟨_, h8, h16, _⟩ := validE_zero hv
  exact parse_ok lineB _ c w hlv hl (text_okB hl) (parse_back hc hv sp) hv (by omega) fun p hp => Nat.le_trans (h16 p hp) (by omega)
theorem chgC_le (c x : UInt8) : (chgC c x).length ≤ 9 := by
  unfold chgC
  repeat' split
  all_goals first | decide | simp
theorem entT_le (a b : List UInt8) {m n : Nat} (ha : a.length ≤ m) (hb : b.length ≤ n) : (entT a b).length ≤ m + n + 3 := by
  rw [entT]
  simp only [List.length_append, List.length_cons, List.length_nil]
  omega
theorem flat_le (n : Nat) : ∀ ls : List (List UInt8), (∀ l ∈ ls, l.length ≤ n) → (ls.flatMap fun l => l ++ [10]).length ≤ (n + 1) * ls.length
  | [], _ => by simp
  | a :: r, h => by
    have h1 := flat_le n r fun l hl => h l (List.mem_cons_of_mem _ hl)
    have h2 := h a (List.mem_cons_self ..)
    rw [List.flatMap_cons, List.length_append, List.length_append, List.length_cons, List.length_nil, List.length_cons, Nat.mul_succ]
    omega
theorem psT_short {al : List (AddrM × Int)} (h : al.length ≤ 2) (hq : ∀ q ∈ al, q.2 ≤ 9223372036854775807) : (psT al).length ≤ 120 := by
  have hp : ∀ q ∈ al, (prefT q.1 q.2).length ≤ 59 := fun q hm => by
    have h1 := addrT_len q.1
    have h2 := decT_len q.2.toNat 19 (by omega) (by have := hq q hm; omega)
    unfold prefT
    split
    · simp
    · simp only [List.length_append, List.length_cons]; omega
  match al, h, hp with
  | [], _, _ => decide
  | [a], _, hp =>
    have := hp a (by simp)
    simp [psT, Lib.join]
    omega
  | [a, b], _, hp =>
    have := hp a (by simp)
    have := hp b (by simp)
    simp [psT, Lib.join]
    omega
theorem peerT_short {p : PeerM} (hp : p.ok) (hr : rightP p = true) (hal : p.al.length ≤ 2) : ∀ t ∈ peerT p, t.length ≤ 142 := by
  intro t ht
  simp only [peerT, List.mem_cons, List.mem_append] at ht
  rcases ht with rfl | rfl | rfl | ht | ht | ht | ht
  · simp
  · decide
  · exact Nat.le_trans (entT_le _ _ (m := 9) (by decide) (textL_len _ hp.1)) (by omega)
  · split at ht
    · cases ht
    · rw [List.mem_singleton] at ht
      subst ht
      exact Nat.le_trans (entT_le _ _ (m := 12) (by decide) (textL_len _ hp.2.1)) (by omega)
  · split at ht
    · rename_i hb
      rw [List.mem_singleton] at ht
      subst ht
      exact Nat.le_trans (entT_le _ _ (m := 8) (by decide) (endT_le _ _ (rightE_port hr hb))) (by omega)
    · cases ht
  · split at ht
    · cases ht
    · rw [List.mem_singleton] at ht
      subst ht
      have := rightK_le hr
      exact Nat.le_trans (entT_le _ _ (m := 19) (by decide) (decT_len _ 10 (by omega) (by omega))) (by omega)
  · split at ht
    · cases ht
    · rw [List.mem_singleton] at ht
      subst ht
      exact Nat.le_trans (entT_le _ _ (m := 10) (by decide) (psT_short hal (fun q hq => (hp.2.2.2.2.2 q hq).2.2))) (by omega)
theorem conf_short {c : ConfM} (hc : c.ok) (hv : validE c = 0) (h3 : c.peers.length ≤ 3) (hal : ∀ p ∈ c.peers, p.al.length ≤ 2) : (fmtM c).length ≤ 3500 := by
  obtain ⟨hq, _, _, hr⟩ := validE_zero hv
  have h1 := lines_le c.peers
  have h2 := flat_le 142 (confT c) fun t ht => by
    simp only [confT, List.mem_cons, List.mem_flatMap] at ht
    rcases ht with rfl | rfl | rfl | ⟨p, hp, ht⟩
    · decide
    · exact Nat.le_trans (entT_le _ _ (m := 10) (by decide) (textL_len _ hc.1)) (by omega)
    · exact Nat.le_trans (entT_le _ _ (m := 10) (by decide) (decT_len _ 10 (by omega) (by omega))) (by omega)
    · exact peerT_short (hc.2.2 p hp) (hr p hp) (hal p hp) t ht
  have h3 : (confT c).length ≤ 24 := by
    simp only [confT, List.length_cons]
    omega
  rw [fmtM]
  have : 143 * (confT c).length ≤ 143 * 24 := Nat.mul_le_mul_left _ h3
  omega
end Go.Proofs.YtcbfchkhbngpkaaGreatDoor
