/-
  The contract of config's Parse on texts that it accepts, and on those that are too long. Plain mathematics of a key's bits: the six bits of a place of the text, one by one, and the bytes that the characters' bits make. The contract of the reference's Text. The choices that the statements are made of, at a world. A slice built of arrays of one size: its block holds them one behind the other. The contracts of the choices that the statements are made of: Addr, Prefix. The contract of an address that the statements are made of: Host. The contracts of the choices that the statements are made of: Prefix. The sanity check of layer 13 holds, over what is asked of FormatPrefix and ParsePrefix. ConfigLimits returns true for every key and number: the walk. ConfigLimits returns true for every key and number: the walk, over what the program's functions do. No statement is proved here.
-/
import Derived.Defers
import Derived.Recover
import Derived.RegionTactic
import Derived.Deep.DeepCutAuto
import Derived.Laws.BitsAllLaws
import Derived.Lib.SmallJoins
import Derived.Lib.Strings
import Derived.BigRegion
import Derived.BigQuiet
import Derived.Deep.QuietTactic
import Derived.Deep.RegionLaw
import Derived.Maps.AppendAt
import Derived.Outline
import Derived.Test.YthebekheejikgaaGreatDoorConfigLimitsB7
namespace Go.Proofs.YthebekheejikgaaGreatDoor
open Go.RowKit

theorem closure_idle (a b c d : Value) (w : World) :
    CallsD Tryz.prog 42 #[a, b, c, d] .returning w fun e u' w' => e = .returned (.tuple #[]) ∧ u' = .returning ∧ w' = w := by
  refine callsD_of_wpS Tryz.func42 rfl fun c₀ cs hu => ?_
  apply wpS_seq
  apply wpS_region
  simp [wpOpsS, go_sem, recoverD, hu, Tryz.ntmps42, Exit.thenS]
  refine wpS_cond (t := false) (by simp [Act.eval, Array.replicate]) ?_
  simp only [Bool.false_eq_true, if_false]
  refine wpS_of_wp (wp_skip ?_)
  cases c₀
  simp_all [bodyPostS, results, Tryz.results42]
theorem conf_one (c : ConfM) (A : Option Addr) (n cap : Nat) : ∀ v ∈ c.cells (.slice A n cap), v.oneCell' = true := by
  intro v hv
  simp only [ConfM.cells, List.mem_append, List.mem_cons, List.mem_map, List.not_mem_nil, or_false] at hv
  rcases hv with ⟨x, _, rfl⟩ | rfl | rfl <;> rfl
theorem conf_cellsOf (c : ConfM) (h : c.ok) (v : Value) : (Tryz.prog.info? 27).map (·.size) = some (c.cells v).length := by
  rw [ConfM.cells_length h]; kernel_rfl
theorem conf_of {w : World} {g : Nat} {t : TypeId} {c : ConfM} {line : Nat} {mv v : Value} (h : Blk w g t (psC c line mv v)) : At w g 0 (c.cells v) := fun j u hj => h.all j u (by
  rw [psC, List.getElem?_append_left (List.getElem?_eq_some_iff.1 hj).1]; exact hj)
theorem PsAt.other {base gp m : Nat} {W W' : World} {s : PsM} {line : Nat} {mv v : Value} {Bs : List Nat} {g : Nat} (h : PsAt base gp m W s line mv v Bs) (hk : KeptBut W W' g) (hg : g < base) : PsAt base gp m W' s line mv v Bs :=
  ⟨h.ok, h.low, h.nd, h.nin, by
    have h0 := h.blk
    have h1 := h.low
    unfold Blk at h0 ⊢
    rw [hk.2 gp h.blk.lt (by omega)]
    exact h0, h.peers.kept fun k hb => hk.2 k (h.peers.mem k hb).2 (by have := (h.peers.mem k hb).1; omega), by
    cases hs : s.seen with
    | none =>
      have h2 := h.seen
      rw [hs] at h2
      exact h2
    | some S =>
      have h2 := h.seen
      rw [hs] at h2
      obtain ⟨gm, e1, e2, e3, e4, e5, e6⟩ := h2
      exact ⟨gm, e1, e2, e3, e4, e5, e6.kept (hk.2 gm e6.lt (by omega))⟩⟩
theorem Blk.but {w w' : World} {g k : Nat} {t : TypeId} {cs : List Value} (h : Blk w g t cs) (hk : KeptBut w w' k) (hne : g ≠ k) : Blk w' g t cs := by
  have h0 := h
  unfold Blk at h0 ⊢
  rw [hk.2 g h.lt hne]
  exact h0
theorem results_three {P : Program} {fn : Func} {p q r : Tmp} {ty t2 t3 : TypeId} (h : fn.results = #[.cell p ty, .cell q t2, .cell r t3]) (tmps : Array Value) (w : World) (g1 g2 g3 : Nat) (cs : List Value) (x y : Value) (d : TypeDesc)
    (hp : tmps.getD p undef = .pointer (some ⟨g1, 0, none⟩)) (hq : tmps.getD q undef = .pointer (some ⟨g2, 0, none⟩)) (hr : tmps.getD r undef = .pointer (some ⟨g3, 0, none⟩)) (hg : At w g1 0 cs) (hu : P.underlying ty = some d) (hd : isObj d = true) (hi : (P.info? ty).map (·.size) = some cs.length)
    (h2 : (loadVar t2 ⟨g2, 0, none⟩).run P w = .ok x w) (h3 : (loadVar t3 ⟨g3, 0, none⟩).run P w = .ok y w) :
    (results fn tmps).run P w = .ok (.tuple #[.agg cs.toArray, x, y]) w := by
  have hp' : tmps[p]?.getD undef = .pointer (some ⟨g1, 0, none⟩) := by simpa using hp
  have hq' : tmps[q]?.getD undef = .pointer (some ⟨g2, 0, none⟩) := by simpa using hq
  have hr' : tmps[r]?.getD undef = .pointer (some ⟨g3, 0, none⟩) := by simpa using hr
  simp [results, h, hp', hq', hr', asAddr, run_load_obj w g1 0 ty cs hg d hu hd hi, h2, h3]
set_option maxRecDepth 100000 in
set_option maxHeartbeats 8000000 in
theorem parse_ok {ok : PsM → List UInt8 → Prop} (HLC : LineC ok) (l : List UInt8) (c : ConfM) (w : World) (hlv : LvCf w) (hl : l.length ≤ 4000) (hok : RunOk ok ps0 (linesB l)) (h : parseCf l = some c) (hv : validE c = 0) (hn : c.peers.length ≤ 1000) (ha : ∀ p ∈ c.peers, p.al.length ≤ 1000) :
    Calls Tryz.prog 15 #[.string ⟨l.toArray⟩] w fun e w' => ∃ A cap, e = .returned (.tuple #[.agg (c.cells (.slice A c.peers.length cap)).toArray, .int .i64 0, .int .i64 0]) ∧ PeRd w' w'.heap.size A c.peers.length c.peers ∧ c.ok ∧ Below w.heap.size w w' := by
  have hmf : ∀ (fn : Fn) (first cap : Array Value) (w : World), (Instr.makeFunc fn first cap).run Tryz.prog w = .ok (.func fn first cap) w := fun _ _ _ _ => rfl
  obtain ⟨t, hr, he, htc⟩ : ∃ t, runM ps0 (linesB l) = some t ∧ endOk t = true ∧ t.conf = c := by
    unfold parseCf at h
    cases hx : runM ps0 (linesB l) with
    | none => rw [hx] at h; cases h
    | some t =>
      rw [hx] at h
      simp only at h
      by_cases he : endOk t = true
      · rw [if_pos he] at h
        injection h with h
        exact ⟨t, rfl, he, h⟩
      · rw [if_neg he] at h; cases h
  obtain ⟨S, hS⟩ : ∃ S : ByteArray, ⟨l.toArray⟩ = S := ⟨_, rfl⟩
  have hsz : S.size = l.length := by rw [← hS]; exact mk_size l
  have d1 : decide ((S.size : Int) > 4000) = false := by simp; omega
  have d2 : decide (4000 < S.size) = false := decide_eq_false (by omega)
  have HS := Lib.hid hS
  rw [hS]
  have HX := Lib.hid (And.intro hlv (And.intro hl (And.intro hok (And.intro hr (And.intro he htc)))))
  have HV := Lib.hid (And.intro hv (And.intro hn ha))
  clear hlv hl hok h hv hn ha hr he htc hS hsz
  obtain ⟨zc, hzc⟩ : ∃ z : Array Value, #[.int .u8 0, .int .u8 0, .int .u8 0, .int .u8 0, .int .u8 0, .int .u8 0, .int .u8 0, .int .u8 0, .int .u8 0, .int .u8 0, .int .u8 0, .int .u8 0, .int .u8 0, .int .u8 0, .int .u8 0, .int .u8 0, .int .u8 0, .int .u8 0, .int .u8 0, .int .u8 0, .int .u8 0, .int .u8 0, .int .u8 0, .int .u8 0, .int .u8 0, .int .u8 0, .int .u8 0, .int .u8 0, .int .u8 0, .int .u8 0, .int .u8 0, .int .u8 0, .int .i64 0, .slice none 0 0] = z := ⟨_, rfl⟩
  have HZC := Lib.hid (show zc.toList.length = 34 from by rw [← hzc]; rfl)
  have hm3 := (((Lows.nil w).alloc 27 zc zc.toList (by simp)).alloc 3 #[.int .i64 0] [.int .i64 0] rfl).alloc 34 #[.int .i64 0] [.int .i64 0] rfl
  have HM3 := Lib.hid (show Lows w [blkL (w.heap.size + 1 + 1) 34 [.int .i64 0], blkL (w.heap.size + 1) 3 [.int .i64 0], blkL w.heap.size 27 zc.toList] (((w.alloc (.cells zc 27)).alloc (.cells #[.int .i64 0] 3)).alloc (.cells #[.int .i64 0] 34)) from by simpa using hm3)
  have HSZ := Lib.hid (show (((w.alloc (.cells zc 27)).alloc (.cells #[.int .i64 0] 3)).alloc (.cells #[.int .i64 0] 34)).heap.size = w.heap.size + 1 + 1 + 1 from by simp)
  clear hm3
  go_enter_defers Tryz.func15, Tryz.ntmps15
  go_wp2_with fail
  generalize ((w.alloc (.cells zc 27)).alloc (.cells #[.int .i64 0] 3)).alloc (.cells #[.int .i64 0] 34) = w3 at HM3 HSZ ⊢
  have HB3 := Lib.hid HM3.out.bel
  have HP4 := Lib.hid (show PsA w3.heap.size w3.heap.size 0 (w3.alloc (.cells #[.int .u8 0, .int .u8 0, .int .u8 0, .int .u8 0, .int .u8 0, .int .u8 0, .int .u8 0, .int .u8 0, .int .u8 0, .int .u8 0, .int .u8 0, .int .u8 0, .int .u8 0, .int .u8 0, .int .u8 0, .int .u8 0, .int .u8 0, .int .u8 0, .int .u8 0, .int .u8 0, .int .u8 0, .int .u8 0, .int .u8 0, .int .u8 0, .int .u8 0, .int .u8 0, .int .u8 0, .int .u8 0, .int .u8 0, .int .u8 0, .int .u8 0, .int .u8 0, .int .i64 0, .slice none 0 0, .int .i64 0, .map none] 84)) ps0 0 from ⟨.map none, .slice none 0 0, [], conf0_ok, Nat.le_refl _, List.nodup_nil, by simp, Blk.new w3 84 (psC conf0 0 (.map none) (.slice none 0 0)), PeersAt.nil _ _, rfl⟩)
  have HB4 := Lib.hid ((Below.refl w3.heap.size w3).alloc (Nat.le_refl _) (.cells #[.int .u8 0, .int .u8 0, .int .u8 0, .int .u8 0, .int .u8 0, .int .u8 0, .int .u8 0, .int .u8 0, .int .u8 0, .int .u8 0, .int .u8 0, .int .u8 0, .int .u8 0, .int .u8 0, .int .u8 0, .int .u8 0, .int .u8 0, .int .u8 0, .int .u8 0, .int .u8 0, .int .u8 0, .int .u8 0, .int .u8 0, .int .u8 0, .int .u8 0, .int .u8 0, .int .u8 0, .int .u8 0, .int .u8 0, .int .u8 0, .int .u8 0, .int .u8 0, .int .i64 0, .slice none 0 0, .int .i64 0, .map none] 84))
  rw [show w.heap.size + 1 + 1 + 1 = w3.heap.size from HSZ.out.symm]
  generalize w3.alloc (.cells #[.int .u8 0, .int .u8 0, .int .u8 0, .int .u8 0, .int .u8 0, .int .u8 0, .int .u8 0, .int .u8 0, .int .u8 0, .int .u8 0, .int .u8 0, .int .u8 0, .int .u8 0, .int .u8 0, .int .u8 0, .int .u8 0, .int .u8 0, .int .u8 0, .int .u8 0, .int .u8 0, .int .u8 0, .int .u8 0, .int .u8 0, .int .u8 0, .int .u8 0, .int .u8 0, .int .u8 0, .int .u8 0, .int .u8 0, .int .u8 0, .int .u8 0, .int .u8 0, .int .i64 0, .slice none 0 0, .int .i64 0, .map none] 84) = w4 at HP4 HB4 ⊢
  have hread := read_any HLC w3 w4 w3.heap.size ps0 t l (HX.out.1.below HB3.out) HB4.out HP4.out HX.out.2.1 HX.out.2.2.1 HX.out.2.2.2.1 HX.out.2.2.2.2.1
  rw [HS.out] at hread
  refine hread.mono ?_
  rintro e w5 ⟨rfl, ⟨m, line, mv, v, Bs, hp⟩, hb⟩
  obtain ⟨A, cap, rfl, hcap, _⟩ := hp.slice
  obtain rfl := HX.out.2.2.2.2.2
  have HP := Lib.hid hp
  have HB5 := Lib.hid hb
  have HM5 := Lib.hid (HM3.out.below hb)
  have HLV5 := Lib.hid (HX.out.1.below HM5.out.bel)
  have HG := Lib.hid (show w.heap.size < w.heap.size + 1 ∧ w.heap.size + 1 + 1 < w3.heap.size from by rw [HSZ.out]; omega)
  clear hread hp hb hcap HP4 HB4 HM3 HB3 HX
  generalize w3.heap.size = gp at HP HB5 HG HSZ ⊢
  obtain ⟨g2, hg2⟩ : ∃ z, w.heap.size + 1 = z := ⟨_, rfl⟩
  obtain ⟨g3, hg3⟩ : ∃ z, g2 + 1 = z := ⟨_, rfl⟩
  rw [hg2, hg3] at HG HM5 HSZ
  rw [hg2, hg3]
  have HGL := Lib.hid (show w.heap.size < g2 ∧ g2 < g3 ∧ g3 < gp from by have := HG.out; omega)
  clear HG HSZ hg2 hg3
  generalize hg1 : w.heap.size = g1 at HM5 HGL ⊢
  have HB1 := Lib.hid (HM5.out.blk 2 rfl)
  have HB2 := Lib.hid (HM5.out.blk 1 rfl)
  have HB3 := Lib.hid (HM5.out.blk 0 rfl)
  have HBL := Lib.hid HM5.out.bel
  clear HM5
  obtain ⟨cc, hcc⟩ : ∃ z, (t.conf.cells (.slice A t.conf.peers.length cap)).toArray = z := ⟨_, rfl⟩
  have HCC := Lib.hid hcc
  clear hcc
  go_wp2_with ((with_reducible refine at_op (.load 27 (.tmp 13)) rfl ?_); refine wpList_load_obj rfl 27 (.tmp 13) rfl gp 0 rfl _ (conf_of HP.out.blk) _ Tryz.underlying27 rfl (conf_cellsOf t.conf HP.out.ok _) ?_; rw [HCC.out])
  have hval := validate_any t.conf A t.conf.peers.length cap w5 HP.out.ok (HP.out.peers.rd rfl HP.out.ok.2.2) HV.out.2.1 HV.out.2.2 HLV5.out
  rw [HCC.out, HV.out.1] at hval
  refine hval.mono ?_
  rintro e w6 ⟨rfl, hb⟩
  replace HP := Lib.hid (HP.out.below hb)
  replace HB1 := Lib.hid (HB1.out.below hb HB1.out.lt)
  replace HB2 := Lib.hid (HB2.out.below hb HB2.out.lt)
  replace HB3 := Lib.hid (HB3.out.below hb HB3.out.lt)
  replace HBL := Lib.hid (HBL.out.trans (hb.mono HBL.out.size))
  clear hb hval
  have f3 : w6.cell? ⟨g3, 0, none⟩ = some (.int .i64 0) := HB3.out.cell 0
  have z3 := HB3.out.frozen 0
  have hk := KeptBut.of_set (W := w6) (g := g3) (j := 0) (v := .int .i64 0)
  have HP7 := Lib.hid (HP.out.other hk HGL.out.2.2)
  have HB17 := Lib.hid (HB1.out.but hk (by have := HGL.out; omega))
  have HB27 := Lib.hid (HB2.out.but hk (by have := HGL.out; omega))
  have HB37 := Lib.hid (show Blk (w6.setCell ⟨g3, 0, none⟩ (.int .i64 0)) g3 34 [.int .i64 0] from HB3.out.set_ 0 (.int .i64 0))
  have HBL7 := Lib.hid (set_own (j := 0) (v := .int .i64 0) HBL.out (show w.heap.size ≤ g3 by have := HGL.out; omega))
  clear hk
  go_upto_region 7 with fail
  generalize w6.setCell ⟨g3, 0, none⟩ (.int .i64 0) = w7 at HP7 HB17 HB27 HB37 HBL7 ⊢
  clear f3 z3 HP HB1 HB2 HB3 HBL
  have f3 : w7.cell? ⟨g3, 0, none⟩ = some (.int .i64 0) := HB37.out.cell 0
  go_upto_region 9 with fail
  clear f3
  go_wp2_with (first | ((with_reducible refine at_op (.load 27 (.tmp 20)) rfl ?_); refine wpList_load_obj rfl 27 (.tmp 20) rfl gp 0 rfl _ (conf_of HP7.out.blk) _ Tryz.underlying27 rfl (conf_cellsOf t.conf HP7.out.ok _) ?_; rw [HCC.out]) | ((with_reducible refine at_op (.store 27 (.tmp 2) (.tmp 21)) rfl ?_); refine wpList_store_obj rfl 27 (.tmp 2) (.tmp 21) rfl g1 0 (t.conf.cells (.slice A t.conf.peers.length cap)) rfl (by show Value.agg cc = _; rw [HCC.out]) 27 zc.toList HB17.out (conf_cellsOf t.conf HP7.out.ok _) (by rw [ConfM.cells_length HP7.out.ok, HZC.out]; decide) (conf_one t.conf A _ cap) ?_; intro w8 hb8 hg8; have hk8 := KeptBut.of_grown hg8; have B2 := HB27.out.but hk8 (by have := HGL.out; omega); have B3 := HB37.out.but hk8 (by have := HGL.out; omega); have f2 : w8.cell? ⟨g2, 0, none⟩ = some (.int .i64 0) := B2.cell 0; have z2 := B2.frozen 0; have hk9 := KeptBut.of_set (W := w8) (g := g2) (j := 0) (v := .int .i64 0); have B39 := B3.but hk9 (by have := HGL.out; omega); have f3 : (w8.setCell ⟨g2, 0, none⟩ (.int .i64 0)).cell? ⟨g3, 0, none⟩ = some (.int .i64 0) := B39.cell 0; have z3 := B39.frozen 0))
  rw [setL_all zc.toList _ (by rw [ConfM.cells_length HP7.out.ok, HZC.out])] at hb8
  have hk10 := KeptBut.of_set (W := w8.setCell ⟨g2, 0, none⟩ (.int .i64 0)) (g := g3) (j := 0) (v := .int .i64 0)
  have B1F := Lib.hid ((hb8.but hk9 (by have := HGL.out; omega)).but hk10 (by have := HGL.out; omega))
  have B2F := Lib.hid (show Blk ((w8.setCell ⟨g2, 0, none⟩ (.int .i64 0)).setCell ⟨g3, 0, none⟩ (.int .i64 0)) g2 3 [.int .i64 0] from (B2.set_ 0 (.int .i64 0)).but hk10 (by have := HGL.out; omega))
  have B3F := Lib.hid (show Blk ((w8.setCell ⟨g2, 0, none⟩ (.int .i64 0)).setCell ⟨g3, 0, none⟩ (.int .i64 0)) g3 34 [.int .i64 0] from B39.set_ 0 (.int .i64 0))
  have HPF := Lib.hid (((HP7.out.other hk8 (by have := HGL.out; omega)).other hk9 (by have := HGL.out; omega)).other hk10 (by have := HGL.out; omega))
  have HBF := Lib.hid (set_own (j := 0) (v := .int .i64 0) (set_own (j := 0) (v := .int .i64 0) (grown_own HBL7.out hg8 (by omega)) (show w.heap.size ≤ g2 by have := HGL.out; omega)) (show w.heap.size ≤ g3 by have := HGL.out; omega))
  clear hb8 hg8 hk8 hk9 hk10 B2 B3 B39 f2 f3 z2 z3 HB17 HB27 HB37 HBL7 HP7
  generalize (w8.setCell ⟨g2, 0, none⟩ (.int .i64 0)).setCell ⟨g3, 0, none⟩ (.int .i64 0) = w9 at B1F B2F B3F HPF HBF ⊢
  have fi : (loadVar 3 ⟨g2, 0, none⟩).run Tryz.prog w9 = .ok (.int .i64 0) w9 := by
    have f : w9.cell? ⟨g2, 0, none⟩ = some (.int .i64 0) := B2F.out.cell 0
    simp [loadVar, f, go_sem]
  have fe : (loadVar 34 ⟨g3, 0, none⟩).run Tryz.prog w9 = .ok (.int .i64 0) w9 := by
    have f : w9.cell? ⟨g3, 0, none⟩ = some (.int .i64 0) := B3F.out.cell 0
    simp [loadVar, f, go_sem]
  refine leaves_cons (f := 42) (args := #[.pointer (some ⟨gp, 0, none⟩), .pointer (some ⟨g1, 0, none⟩), .pointer (some ⟨g2, 0, none⟩), .pointer (some ⟨g3, 0, none⟩)]) (by simp) (by simp [go_sem]) ?_
  refine (closure_idle _ _ _ _ _).mono ?_
  rintro e u' w'' ⟨rfl, rfl, rfl⟩
  exact ⟨_, results_three rfl _ _ g1 g2 g3 _ _ _ _ rfl rfl rfl B1F.out.all Tryz.underlying27 rfl (conf_cellsOf t.conf HPF.out.ok _) fi fe, A, cap, rfl, HPF.out.peers.rd rfl HPF.out.ok.2.2, HPF.out.ok, HBF.out⟩
set_option maxRecDepth 100000 in
set_option maxHeartbeats 8000000 in
theorem parse_long (l : List UInt8) (w : World) (h : 4000 < l.length) (hl : l.length ≤ 1000000) :
    Calls Tryz.prog 15 #[.string ⟨l.toArray⟩] w fun e w' => e = .returned (.tuple #[.agg (conf0.cells (.slice none 0 0)).toArray, .int .i64 0, .int .i64 3]) ∧ Below w.heap.size w w' := by
  obtain ⟨S, hS⟩ : ∃ S : ByteArray, ⟨l.toArray⟩ = S := ⟨_, rfl⟩
  have hsz : S.size = l.length := by rw [← hS]; exact mk_size l
  have d1 : decide ((S.size : Int) > 4000) = true := by simp; omega
  have d2 : decide (4000 < S.size) = true := decide_eq_true (by omega)
  rw [hS]
  clear hS
  obtain ⟨zc, hzc⟩ : ∃ z : Array Value, #[.int .u8 0, .int .u8 0, .int .u8 0, .int .u8 0, .int .u8 0, .int .u8 0, .int .u8 0, .int .u8 0, .int .u8 0, .int .u8 0, .int .u8 0, .int .u8 0, .int .u8 0, .int .u8 0, .int .u8 0, .int .u8 0, .int .u8 0, .int .u8 0, .int .u8 0, .int .u8 0, .int .u8 0, .int .u8 0, .int .u8 0, .int .u8 0, .int .u8 0, .int .u8 0, .int .u8 0, .int .u8 0, .int .u8 0, .int .u8 0, .int .u8 0, .int .u8 0, .int .i64 0, .slice none 0 0] = z := ⟨_, rfl⟩
  have HZC := Lib.hid (show zc.toList.length = 34 from by rw [← hzc]; rfl)
  have hcz : zc.toList = conf0.cells (.slice none 0 0) := by rw [← hzc]; rfl
  have HCZ := Lib.hid hcz
  have HBT := Lib.hid (show Tryz.prog.built 27 [] = some zc from by rw [← hzc]; kernel_rfl)
  have hm3 := (((Lows.nil w).alloc 27 zc zc.toList (by simp)).alloc 3 #[.int .i64 0] [.int .i64 0] rfl).alloc 34 #[.int .i64 0] [.int .i64 0] rfl
  have HM3 := Lib.hid (show Lows w [blkL (w.heap.size + 1 + 1) 34 [.int .i64 0], blkL (w.heap.size + 1) 3 [.int .i64 0], blkL w.heap.size 27 zc.toList] (((w.alloc (.cells zc 27)).alloc (.cells #[.int .i64 0] 3)).alloc (.cells #[.int .i64 0] 34)) from by simpa using hm3)
  clear hm3 hcz
  go_enter_defers Tryz.func15, Tryz.ntmps15
  go_upto_region 2 with fail
  generalize ((w.alloc (.cells zc 27)).alloc (.cells #[.int .i64 0] 3)).alloc (.cells #[.int .i64 0] 34) = w3 at HM3 ⊢
  obtain ⟨g2, hg2⟩ : ∃ z, w.heap.size + 1 = z := ⟨_, rfl⟩
  obtain ⟨g3, hg3⟩ : ∃ z, g2 + 1 = z := ⟨_, rfl⟩
  rw [hg2, hg3] at HM3
  rw [hg2, hg3]
  have HGL := Lib.hid (show w.heap.size < g2 ∧ g2 < g3 from by omega)
  clear hg2 hg3
  generalize hg1 : w.heap.size = g1 at HM3 HGL ⊢
  have HB1 := Lib.hid (HM3.out.blk 2 rfl)
  have HB2 := Lib.hid (HM3.out.blk 1 rfl)
  have HB3 := Lib.hid (HM3.out.blk 0 rfl)
  have HBL := Lib.hid HM3.out.bel
  clear HM3 d1 d2
  go_wp2_with (first | (refine wpList_build_as rfl 27 [] rfl zc ?_ ?_; exact HBT.out) | ((with_reducible refine at_op (.store 27 (.tmp 2) (.tmp 9)) rfl ?_); refine wpList_store_obj rfl 27 (.tmp 2) (.tmp 9) rfl g1 0 zc.toList rfl (by show Value.agg zc = _; simp) 27 zc.toList HB1.out (by rw [HZC.out]; kernel_rfl) (by omega) (by rw [HCZ.out]; exact conf_one conf0 none 0 0) ?_; intro w8 hb8 hg8; have hk8 := KeptBut.of_grown hg8; have B2 := HB2.out.but hk8 (by have := HGL.out; omega); have B3 := HB3.out.but hk8 (by have := HGL.out; omega); have f2 : w8.cell? ⟨g2, 0, none⟩ = some (.int .i64 0) := B2.cell 0; have z2 := B2.frozen 0; have hk9 := KeptBut.of_set (W := w8) (g := g2) (j := 0) (v := .int .i64 0); have B39 := B3.but hk9 (by have := HGL.out; omega); have f3 : (w8.setCell ⟨g2, 0, none⟩ (.int .i64 0)).cell? ⟨g3, 0, none⟩ = some (.int .i64 0) := B39.cell 0; have z3 := B39.frozen 0))
  rw [setL_all zc.toList _ rfl] at hb8
  have hk10 := KeptBut.of_set (W := w8.setCell ⟨g2, 0, none⟩ (.int .i64 0)) (g := g3) (j := 0) (v := .int .i64 3)
  have B1F := Lib.hid ((hb8.but hk9 (by have := HGL.out; omega)).but hk10 (by have := HGL.out; omega))
  have B2F := Lib.hid (show Blk ((w8.setCell ⟨g2, 0, none⟩ (.int .i64 0)).setCell ⟨g3, 0, none⟩ (.int .i64 3)) g2 3 [.int .i64 0] from (B2.set_ 0 (.int .i64 0)).but hk10 (by have := HGL.out; omega))
  have B3F := Lib.hid (show Blk ((w8.setCell ⟨g2, 0, none⟩ (.int .i64 0)).setCell ⟨g3, 0, none⟩ (.int .i64 3)) g3 34 [.int .i64 3] from B39.set_ 0 (.int .i64 3))
  have HBF := Lib.hid (set_own (j := 0) (v := .int .i64 3) (set_own (j := 0) (v := .int .i64 0) (grown_own HBL.out hg8 (by omega)) (show w.heap.size ≤ g2 by have := HGL.out; omega)) (show w.heap.size ≤ g3 by have := HGL.out; omega))
  clear hb8 hg8 hk8 hk9 hk10 B2 B3 B39 f2 f3 z2 z3 HB1 HB2 HB3 HBL
  generalize (w8.setCell ⟨g2, 0, none⟩ (.int .i64 0)).setCell ⟨g3, 0, none⟩ (.int .i64 3) = w9 at B1F B2F B3F HBF ⊢
  have fi : (loadVar 3 ⟨g2, 0, none⟩).run Tryz.prog w9 = .ok (.int .i64 0) w9 := by
    have f : w9.cell? ⟨g2, 0, none⟩ = some (.int .i64 0) := B2F.out.cell 0
    simp [loadVar, f, go_sem]
  have fe : (loadVar 34 ⟨g3, 0, none⟩).run Tryz.prog w9 = .ok (.int .i64 3) w9 := by
    have f : w9.cell? ⟨g3, 0, none⟩ = some (.int .i64 3) := B3F.out.cell 0
    simp [loadVar, f, go_sem]
  have hat : At w9 g1 0 (conf0.cells (.slice none 0 0)) := by rw [← HCZ.out]; exact B1F.out.all
  exact ⟨_, results_three rfl _ _ g1 g2 g3 _ _ _ _ rfl rfl rfl hat Tryz.underlying27 rfl (conf_cellsOf conf0 conf0_ok _) fi fe, rfl, by first | exact HBF.out | (rw [← hg1]; exact HBF.out)⟩
end Go.Proofs.YthebekheejikgaaGreatDoor
namespace Go.Proofs.YthebekheejikgaaGreatDoor

/-- bit j of a list of bytes, the most significant one of each byte first -/
def bitK (K : List UInt8) (j : Nat) : Nat := (K.getD (j / 8) 0).toNat / 2 ^ (7 - j % 8) % 2
theorem bitK_lt (K : List UInt8) (j : Nat) : bitK K j < 2 := Nat.mod_lt _ (by omega)
/-- the number of the bits a .. a + m - 1 -/
def bitsN (K : List UInt8) (a : Nat) : Nat → Nat
  | 0 => 0
  | m + 1 => 2 * bitsN K a m + bitK K (a + m)
theorem bitsN_lt (K : List UInt8) (a : Nat) : ∀ m, bitsN K a m < 2 ^ m
  | 0 => by simp [bitsN]
  | m + 1 => by
    have := bitsN_lt K a m
    have hb := bitK_lt K (a + m)
    rw [bitsN, Nat.pow_succ]
    omega
theorem three_get (K : List UInt8) (g : Nat) (h : g * 3 + 3 ≤ K.length) : (K.drop (g * 3)).take 3 = [K.getD (g * 3) 0, K.getD (g * 3 + 1) 0, K.getD (g * 3 + 2) 0] := by
  rw [getD_lt (by omega), getD_lt (by omega), getD_lt (by omega)]
  refine List.ext_getElem (by simp; omega) fun r h1 h2 => ?_
  have h3 : r < 3 := by simpa using h2
  obtain rfl | rfl | rfl : r = 0 ∨ r = 1 ∨ r = 2 := by omega
  all_goals simp
theorem numB_three (a b c : UInt8) : numB [a, b, c] = a.toNat * 65536 + b.toNat * 256 + c.toNat := by
  simp [numB, numL]; omega
theorem six_bits0 (a b c : Nat) (_ha : a < 256) (_hb : b < 256) (_hc : c < 256) : (a * 65536 + b * 256 + c) / 2 ^ (6 * (3 - 0)) % 64 = (2 * (2 * (2 * (2 * (2 * (2 * 0 + a / 2 ^ (7 - 0) % 2) + a / 2 ^ (7 - 1) % 2) + a / 2 ^ (7 - 2) % 2) + a / 2 ^ (7 - 3) % 2) + a / 2 ^ (7 - 4) % 2) + a / 2 ^ (7 - 5) % 2) := by
  simp only [Nat.reduceSub, Nat.reduceMul, Nat.reducePow]
  omega
theorem six_bits1 (a b c : Nat) (_ha : a < 256) (_hb : b < 256) (_hc : c < 256) : (a * 65536 + b * 256 + c) / 2 ^ (6 * (3 - 1)) % 64 = (2 * (2 * (2 * (2 * (2 * (2 * 0 + a / 2 ^ (7 - 6) % 2) + a / 2 ^ (7 - 7) % 2) + b / 2 ^ (7 - 0) % 2) + b / 2 ^ (7 - 1) % 2) + b / 2 ^ (7 - 2) % 2) + b / 2 ^ (7 - 3) % 2) := by
  simp only [Nat.reduceSub, Nat.reduceMul, Nat.reducePow]
  omega
theorem six_bits2 (a b c : Nat) (_ha : a < 256) (_hb : b < 256) (_hc : c < 256) : (a * 65536 + b * 256 + c) / 2 ^ (6 * (3 - 2)) % 64 = (2 * (2 * (2 * (2 * (2 * (2 * 0 + b / 2 ^ (7 - 4) % 2) + b / 2 ^ (7 - 5) % 2) + b / 2 ^ (7 - 6) % 2) + b / 2 ^ (7 - 7) % 2) + c / 2 ^ (7 - 0) % 2) + c / 2 ^ (7 - 1) % 2) := by
  simp only [Nat.reduceSub, Nat.reduceMul, Nat.reducePow]
  omega
theorem six_bits3 (a b c : Nat) (_ha : a < 256) (_hb : b < 256) (_hc : c < 256) : (a * 65536 + b * 256 + c) / 2 ^ (6 * (3 - 3)) % 64 = (2 * (2 * (2 * (2 * (2 * (2 * 0 + c / 2 ^ (7 - 2) % 2) + c / 2 ^ (7 - 3) % 2) + c / 2 ^ (7 - 4) % 2) + c / 2 ^ (7 - 5) % 2) + c / 2 ^ (7 - 6) % 2) + c / 2 ^ (7 - 7) % 2) := by
  simp only [Nat.reduceSub, Nat.reduceMul, Nat.reducePow]
  omega
/-- the six bits of a place are those of its group's number -/
theorem sext_bits (K : List UInt8) (i : Nat) (h : i / 4 * 3 + 3 ≤ K.length) : sext K i = bitsN K (6 * i) 6 := by
  unfold sext
  rw [three_get K (i / 4) h, numB_three]
  have ha := (K.getD (i / 4 * 3) 0).toNat_lt
  have hb := (K.getD (i / 4 * 3 + 1) 0).toNat_lt
  have hc := (K.getD (i / 4 * 3 + 2) 0).toNat_lt
  generalize hA : (K.getD (i / 4 * 3) 0).toNat = a at *
  generalize hB : (K.getD (i / 4 * 3 + 1) 0).toNat = b at *
  generalize hC : (K.getD (i / 4 * 3 + 2) 0).toNat = c at *
  have bit : ∀ m x y, 6 * i + m = 8 * x + y → y < 8 → bitK K (6 * i + m) = (K.getD x 0).toNat / 2 ^ (7 - y) % 2 := by
    intro m x y h1 h2
    unfold bitK
    rw [h1, show (8 * x + y) / 8 = x from by omega, show (8 * x + y) % 8 = y from by omega]
  simp only [bitsN]
  rcases (by omega : i % 4 = 0 ∨ i % 4 = 1 ∨ i % 4 = 2 ∨ i % 4 = 3) with h | h | h | h
  · rw [h, bit 0 (i / 4 * 3) 0 (by omega) (by omega), bit 1 (i / 4 * 3) 1 (by omega) (by omega), bit 2 (i / 4 * 3) 2 (by omega) (by omega), bit 3 (i / 4 * 3) 3 (by omega) (by omega), bit 4 (i / 4 * 3) 4 (by omega) (by omega), bit 5 (i / 4 * 3) 5 (by omega) (by omega), hA]
    exact six_bits0 a b c ha hb hc
  · rw [h, bit 0 (i / 4 * 3) 6 (by omega) (by omega), bit 1 (i / 4 * 3) 7 (by omega) (by omega), bit 2 (i / 4 * 3 + 1) 0 (by omega) (by omega), bit 3 (i / 4 * 3 + 1) 1 (by omega) (by omega), bit 4 (i / 4 * 3 + 1) 2 (by omega) (by omega), bit 5 (i / 4 * 3 + 1) 3 (by omega) (by omega), hA, hB]
    exact six_bits1 a b c ha hb hc
  · rw [h, bit 0 (i / 4 * 3 + 1) 4 (by omega) (by omega), bit 1 (i / 4 * 3 + 1) 5 (by omega) (by omega), bit 2 (i / 4 * 3 + 1) 6 (by omega) (by omega), bit 3 (i / 4 * 3 + 1) 7 (by omega) (by omega), bit 4 (i / 4 * 3 + 2) 0 (by omega) (by omega), bit 5 (i / 4 * 3 + 2) 1 (by omega) (by omega), hB, hC]
    exact six_bits2 a b c ha hb hc
  · rw [h, bit 0 (i / 4 * 3 + 2) 2 (by omega) (by omega), bit 1 (i / 4 * 3 + 2) 3 (by omega) (by omega), bit 2 (i / 4 * 3 + 2) 4 (by omega) (by omega), bit 3 (i / 4 * 3 + 2) 5 (by omega) (by omega), bit 4 (i / 4 * 3 + 2) 6 (by omega) (by omega), bit 5 (i / 4 * 3 + 2) 7 (by omega) (by omega), hC]
    exact six_bits3 a b c ha hb hc
end Go.Proofs.YthebekheejikgaaGreatDoor
namespace Go.Proofs.YthebekheejikgaaGreatDoor
open Go.RowKit

theorem bit_and (x E : Nat) (hx : x < 256) : bits BinOp.and IntKind.u8 ((x : Int) / 2 ^ E) 1 = ((x / 2 ^ E % 2 : Nat) : Int) := by
  have e1 : (x : Int) / 2 ^ E = ((x / 2 ^ E : Nat) : Int) := by rw [Int.natCast_ediv, Int.natCast_pow]; rfl
  have h := Nat.div_le_self x (2 ^ E)
  have := u8_and_nat (x / 2 ^ E) 1 (by omega) (by omega)
  rw [nat_mask1] at this
  rw [e1]
  exact this
theorem bitK_low (k : List UInt8) (j : Nat) (h : j / 8 < k.length) : bitK (k ++ [0]) j = (k.getD (j / 8) 0).toNat / 2 ^ (7 - j % 8) % 2 := by
  unfold bitK
  rw [getD_lt h, getD_lt (by simp; omega), List.getElem_append_left h]
theorem bitK_high (k : List UInt8) (j : Nat) (h : j / 8 = k.length) : bitK (k ++ [0]) j = 0 := by
  unfold bitK
  rw [h, getD_lt (by simp), List.getElem_append_right (Nat.le_refl _)]
  simp
theorem b64Cut (k : Nat) (hk : k < 64) : ByteArray.extract (ByteArray.mk #[65, 66, 67, 68, 69, 70, 71, 72, 73, 74, 75, 76, 77, 78, 79, 80, 81, 82, 83, 84, 85, 86, 87, 88, 89, 90, 97, 98, 99, 100, 101, 102, 103, 104, 105, 106, 107, 108, 109, 110, 111, 112, 113, 114, 115, 116, 117, 118, 119, 120, 121, 122, 48, 49, 50, 51, 52, 53, 54, 55, 56, 57, 43, 47]) k (k + 1) = ⟨#[b64D k]⟩ := by
  have : ∀ d : Fin 64, ByteArray.extract (ByteArray.mk #[65, 66, 67, 68, 69, 70, 71, 72, 73, 74, 75, 76, 77, 78, 79, 80, 81, 82, 83, 84, 85, 86, 87, 88, 89, 90, 97, 98, 99, 100, 101, 102, 103, 104, 105, 106, 107, 108, 109, 110, 111, 112, 113, 114, 115, 116, 117, 118, 119, 120, 121, 122, 48, 49, 50, 51, 52, 53, 54, 55, 56, 57, 43, 47]) d.val (d.val + 1) = ⟨#[b64D d.val]⟩ := by decide +kernel
  exact this ⟨k, hk⟩
set_option maxRecDepth 100000 in
set_option maxHeartbeats 1000000 in
theorem refText_any (k : List UInt8) (hk : k.length = 32) (ck : Array Value) (hck : ck = (k.map u8v).toArray) (w : World) :
    Calls Tryz.prog 17 #[.agg ck] w fun e w' => e = .returned (.string ⟨(textL k).toArray⟩) ∧ Below w.heap.size w w' := by
  have hbk : Blk (w.alloc (.cells ck 24)) w.heap.size 24 (k.map u8v) := by rw [hck]; exact Blk.new w _ _
  have HB := Lib.hid hbk
  have HK := Lib.hid hk
  clear hbk hck hk
  go_enter Tryz.func17, Tryz.ntmps17
  go_wp2_with fail
  have hblk := HB.out
  have hbw : Below w.heap.size w (w.alloc (.cells ck 24)) := (Below.refl _ _).alloc (Nat.le_refl _) _
  generalize w.alloc _ = W at hblk hbw ⊢
  have HBLK := Lib.hid hblk
  have HBW := Lib.hid hbw
  clear hblk hbw HB
  go_loop [3, 4] (fun v i => ∃ i' : Nat, i' ≤ 43 ∧ i = .int .i64 i' ∧ v = .string ⟨(chrs k i').toArray⟩) (fun _ i => 43 - (intOf i).toNat)
  case atStart => exact ⟨0, by omega, rfl, rfl⟩
  case round =>
    obtain ⟨i, hi, rfl, rfl⟩ := hrel
    by_cases hlt : i < 43
    · go_wp2_with fail
      go_loop [5, 6] (fun n j => ∃ m : Nat, m ≤ 6 ∧ j = .int .i64 (6 * (i : Int) + (m : Int)) ∧ n = .int .i64 (bitsN (k ++ [0]) (6 * i) m : Nat)) (fun _ j => 6 * i + 6 - (intOf j).toNat)
      case atStart => exact ⟨0, by omega, by go_num, rfl⟩
      case round =>
        obtain ⟨m, hm, rfl, rfl⟩ := hrel
        by_cases hm6 : m < 6
        · by_cases h256 : 6 * i + m < 256
          · have hbd := bitsN_lt (k ++ [0]) (6 * i) m
            have hp : 2 ^ m ≤ 2 ^ 6 := Nat.pow_le_pow_right (by omega) (by omega)
            obtain ⟨b, hb⟩ : ∃ b, bitsN (k ++ [0]) (6 * i) m = b := ⟨_, rfl⟩
            have hb64 : b < 64 := by omega
            obtain ⟨x, hx⟩ : ∃ x, k.getD ((6 * i + m) / 8) 0 = x := ⟨_, rfl⟩
            have hj8 : (6 * i + m) / 8 < k.length := by have := HK.out; omega
            have hcell : W.cell? ⟨w.heap.size, (6 * i + m) / 8, none⟩ = some (.int .u8 (x.toNat : Int)) := by
              rw [HBLK.out.cell, map_u8v_getElem? k _ hj8, ← hx, getD_lt hj8]
            rw [hb]
            have s1 : 6 * (i : Int) + (m : Int) < 256 := by omega
            have hbit := bit_and x.toNat (7 - (6 * i + m) % 8) x.toNat_lt
            have hnext : bitsN (k ++ [0]) (6 * i) (m + 1) = 2 * b + x.toNat / 2 ^ (7 - (6 * i + m) % 8) % 2 := by
              rw [bitsN, hb, bitK_low k _ hj8, hx]
            obtain ⟨y, hy⟩ : ∃ y, x.toNat / 2 ^ (7 - (6 * i + m) % 8) % 2 = y := ⟨_, rfl⟩
            have hy2 : y < 2 := by rw [← hy]; exact Nat.mod_lt _ (by omega)
            rw [hy] at hbit hnext
            have HNX := Lib.hid hnext
            clear hbd hp hb hx hy hnext
            obtain rfl | rfl : y = 0 ∨ y = 1 := by omega
            · go_wp2_with fail
              go_round
              case rel => exact ⟨m + 1, by omega, by go_num, by rw [HNX.out]; go_num⟩
              case measure => simp [intOf]; omega
            · go_wp2_with fail
              go_round
              case rel => exact ⟨m + 1, by omega, by go_num, by rw [HNX.out]; go_num⟩
              case measure => simp [intOf]; omega
          · have hj8 : (6 * i + m) / 8 = k.length := by have := HK.out; omega
            have hnext : bitsN (k ++ [0]) (6 * i) (m + 1) = 2 * bitsN (k ++ [0]) (6 * i) m + 0 := by rw [bitsN, bitK_high k _ hj8]
            have hbd := bitsN_lt (k ++ [0]) (6 * i) m
            have hp : 2 ^ m ≤ 2 ^ 6 := Nat.pow_le_pow_right (by omega) (by omega)
            obtain ⟨b, hb⟩ : ∃ b, bitsN (k ++ [0]) (6 * i) m = b := ⟨_, rfl⟩
            have hb64 : b < 64 := by omega
            rw [hb] at hnext ⊢
            have HNX := Lib.hid hnext
            have s1 : decide (6 * (i : Int) + (m : Int) < 256) = false := by rw [decide_eq_false_iff_not]; omega
            have s2 : 256 ≤ 6 * (i : Int) + (m : Int) := by omega
            clear hbd hp hb hnext
            go_wp2_with fail
            go_round
            case rel => exact ⟨m + 1, by omega, by go_num, by rw [HNX.out]; go_num⟩
            case measure => simp [intOf]; omega
        · obtain rfl : m = 6 := by omega
          have hs : bitsN (k ++ [0]) (6 * i) 6 = sext (k ++ [0]) i := (sext_bits _ i (by simp [HK.out]; omega)).symm
          have hs64 := sext_lt (k ++ [0]) i
          rw [hs]
          obtain ⟨d, hd⟩ : ∃ d, sext (k ++ [0]) i = d := ⟨_, rfl⟩
          rw [hd] at hs64 ⊢
          have HD := Lib.hid hd
          have e1 : (0 : Int) ≤ (d : Int) := by omega
          have e2 : (d : Int) ≤ (d : Int) + 1 := by omega
          have e3 : (d : Int) + 1 ≤ 64 := by omega
          have e4 : (0 : Int) ≤ (d : Int) + 1 := by omega
          have had : ∀ w' : World, (Op.stringOp .add ⟨(chrs k i).toArray⟩ (ByteArray.extract (ByteArray.mk #[65, 66, 67, 68, 69, 70, 71, 72, 73, 74, 75, 76, 77, 78, 79, 80, 81, 82, 83, 84, 85, 86, 87, 88, 89, 90, 97, 98, 99, 100, 101, 102, 103, 104, 105, 106, 107, 108, 109, 110, 111, 112, 113, 114, 115, 116, 117, 118, 119, 120, 121, 122, 48, 49, 50, 51, 52, 53, 54, 55, 56, 57, 43, 47]) d (d + 1))).run Tryz.prog w' = .ok (.string ⟨(chrs k i ++ [b64D d]).toArray⟩) w' := fun w' => by
            rw [b64Cut d hs64]
            exact run_string_add_lists w' (chrs k i) [b64D d] (by rw [chrs_length]; omega) (by simp)
          clear hs hd
          go_wp2_with fail
          go_round
          case rel => exact ⟨i + 1, by omega, by go_num, by rw [chrs_succ, HD.out]⟩
          case measure => simp [intOf]; omega
    · obtain rfl : i = 43 := by omega
      have had : ∀ w' : World, (Op.stringOp .add ⟨(chrs k 43).toArray⟩ ⟨#[61]⟩).run Tryz.prog w' = .ok (.string ⟨(chrs k 43 ++ [61]).toArray⟩) w' := fun w' =>
        run_string_add_lists w' (chrs k 43) [61] (by rw [chrs_length]; omega) (by simp)
      go_wp2
      go_ret
      exact ⟨rfl, HBW.out⟩
end Go.Proofs.YthebekheejikgaaGreatDoor
namespace Go.Proofs.YthebekheejikgaaGreatDoor
open Go.RowKit

/-- the choices at a world: p of them taken -/
structure CodesAt (W : World) (g : Nat) (A : Option Addr) (n c : Nat) (l : List UInt8) (B : Nat) (p : Nat) : Prop where
  blk : Blk W g 48 (codesC A n c p)
  rd : Rd W B A n l
  le : B ≤ g
  lt : g < W.heap.size
  small : n ≤ 100000
  pos : p ≤ n
section
variable {W W' : World} {g : Nat} {A : Option Addr} {n c : Nat} {l : List UInt8} {B p : Nat}
theorem CodesAt.below (h : CodesAt W g A n c l B p) (hb : Below W.heap.size W W') : CodesAt W' g A n c l B p :=
  ⟨h.blk.below hb h.lt, h.rd.below2 (by have := h.le; have := h.lt; omega) hb, h.le, Nat.lt_of_lt_of_le h.lt hb.size, h.small, h.pos⟩
theorem CodesAt.put (h : CodesAt W g A n c l B p) {b : Nat} (hg : W.grownBy W' (some b)) (hb : g < b) : CodesAt W' g A n c l B p :=
  ⟨h.blk.grown hg (fun e => by injection e with e; omega), h.rd.keep (fun q hq => World.cell?_of_block (hg.block q.block (by have := h.le; have := h.lt; omega) (fun e => by injection e with e; have := h.le; omega))), h.le, Nat.lt_of_lt_of_le h.lt hg.size, h.small, h.pos⟩
end
end Go.Proofs.YthebekheejikgaaGreatDoor
namespace Go.Proofs.YthebekheejikgaaGreatDoor
open Go.RowKit

end Go.Proofs.YthebekheejikgaaGreatDoor
namespace Go.Proofs.YthebekheejikgaaGreatDoor
open Go.RowKit

theorem MemE.join {b m : Nat} : ∀ {E2 E : List Ent} {top : Nat} {W : World}, MemE m E2 top W → MemE b E m W → MemE b (E2 ++ E) top W
  | [], _, _, _, h, k => MemE.keep k h (fun _ _ _ => rfl)
  | _ :: _, _, _, _, h, k => ⟨h.1, h.2.1, h.2.2.1, MemE.join h.2.2.2 k⟩
theorem MemG.join {w0 W W' : World} {g : Nat} {E E2 : List Ent} (h : MemG w0 g E W) (hg : g < w0.heap.size) (k : MemG W g E2 W') : MemG w0 g (E2 ++ E) W' :=
  ⟨MemE.join k.1 (h.1.keep (Nat.le_refl _) (fun q h1 hq => k.2.block q hq (fun e => by injection e with e; omega))), grownBy_trans h.2 k.2⟩
section
variable {W W' : World} {g : Nat} {A : Option Addr} {n c : Nat} {l : List UInt8} {B p : Nat}
end
end Go.Proofs.YthebekheejikgaaGreatDoor
namespace Go.Proofs.YthebekheejikgaaGreatDoor
open Go.RowKit

def hostB (u v : UInt8) : List UInt8 := [10, u, 0, v, 0, 0, 0, 0, 0, 0, 0, 0, 0, 0, 0, 0]
/-- the address 10.x.0.y -/
def hostM (x y : Nat) : AddrM := ⟨false, hostB (UInt8.ofNat x) (UInt8.ofNat y)⟩
theorem ip_built (u v : UInt8) : Tryz.prog.built 53 [(0, .int .u8 10), (1, .int .u8 (u.toNat : Int)), (2, .int .u8 0), (3, .int .u8 (v.toNat : Int))] = some ((hostB u v).map u8v).toArray := by kernel_rfl
theorem addr_built (l : List UInt8) (h : l.length = 16) : Tryz.prog.built 55 [(1, .agg (l.map u8v).toArray)] = some (AddrM.mk false l).cells.toArray := by
  rw [built_of 55 [1, 16] [[.bool false], (List.replicate 16 (0 : UInt8)).map u8v] rfl #[(0, 1), (1, 16)] (fun parts => by kernel_rfl) (fun i h => by
    match i, h with
    | 0, _ => rfl
    | 1, _ => rfl) _ (fun p hp => by
    simp only [List.mem_cons, List.not_mem_nil, or_false] at hp
    subst hp
    simp [Value.cells, h])]
  simp [AddrM.cells, Value.cells]
set_option maxRecDepth 100000 in
set_option maxHeartbeats 2000000 in
theorem caseHost_any (x y : Nat) (w : World) :
    Calls Tryz.prog 39 #[.int .i64 (x : Int), .int .i64 (y : Int)] w fun e w' => e = .returned (.agg (hostM x y).cells.toArray) ∧ Below w.heap.size w w' := by
  rw [hostM]
  have hw1 := codeByte_wrap x
  have hw2 := codeByte_wrap y
  generalize UInt8.ofNat x = u at hw1 ⊢
  generalize UInt8.ofNat y = v at hw2 ⊢
  have hb1 := ip_built u v
  have hb2 := addr_built (hostB u v) rfl
  have hok : (AddrM.mk false (hostB u v)).ok := rfl
  generalize hl : hostB u v = l at hb1 hb2 hok ⊢
  clear hl
  obtain ⟨ci, hci⟩ : ∃ c, (l.map u8v).toArray = c := ⟨_, rfl⟩
  obtain ⟨ca, hca⟩ : ∃ c, (AddrM.mk false l).cells.toArray = c := ⟨_, rfl⟩
  rw [hci] at hb1 hb2
  rw [hca] at hb2 ⊢
  have HB := Lib.hid (And.intro hb1 (And.intro hb2 hca))
  have HO := Lib.hid hok
  have HAL := Lib.hid (AddrM.cells_length HO.out)
  have HCO := Lib.hid (addr_cellsOf _ HO.out)
  clear hb1 hb2 hci hca hok
  have HM := Lib.hid (show Mem w [blkE w.heap.size 55 addr0.cells] (w.alloc (.cells #[.bool false, .int .u8 0, .int .u8 0, .int .u8 0, .int .u8 0, .int .u8 0, .int .u8 0, .int .u8 0, .int .u8 0, .int .u8 0, .int .u8 0, .int .u8 0, .int .u8 0, .int .u8 0, .int .u8 0, .int .u8 0, .int .u8 0] 55)) from (Mem.nil w).alloc rfl 55 #[.bool false, .int .u8 0, .int .u8 0, .int .u8 0, .int .u8 0, .int .u8 0, .int .u8 0, .int .u8 0, .int .u8 0, .int .u8 0, .int .u8 0, .int .u8 0, .int .u8 0, .int .u8 0, .int .u8 0, .int .u8 0, .int .u8 0] addr0.cells rfl)
  go_enter Tryz.func39, Tryz.ntmps39
  go_upto_region 1 with fail
  generalize w.alloc (.cells #[.bool false, .int .u8 0, .int .u8 0, .int .u8 0, .int .u8 0, .int .u8 0, .int .u8 0, .int .u8 0, .int .u8 0, .int .u8 0, .int .u8 0, .int .u8 0, .int .u8 0, .int .u8 0, .int .u8 0, .int .u8 0, .int .u8 0] 55) = w1 at HM ⊢
  go_wp2_with (first | (refine wpList_build_as rfl 53 [(0, .const (.int .u8 10)), (1, .tmp 6), (2, .const (.int .u8 0)), (3, .tmp 8)] rfl ci ?_ ?_; exact HB.out.1) | (refine wpList_build_as rfl 55 [(1, .tmp 9)] rfl ca ?_ ?_; exact HB.out.2.1) | (refine wpList_store_blk rfl 55 (.tmp 4) (.tmp 10) rfl w.heap.size (AddrM.mk false l).cells rfl (by show Value.agg ca = _; rw [HB.out.2.2]) 55 addr0.cells (HM.out.blk 0 rfl) HCO.out (by rw [HAL.out]; rfl) (AddrM.one _) ?_; intro w9 hb9 hg9))
  exact bodyPost_ret (results_obj rfl _ _ w.heap.size 55 (AddrM.mk false l).cells _ rfl hb9 Tryz.underlying55 rfl HCO.out) rfl ⟨by rw [HB.out.2.2], (HM.out.put 0 rfl _ hg9 hb9).bel⟩
end Go.Proofs.YthebekheejikgaaGreatDoor
namespace Go.Proofs.YthebekheejikgaaGreatDoor
open Go.RowKit

end Go.Proofs.YthebekheejikgaaGreatDoor
namespace Go.Proofs.YthebekheejikgaaGreatDoor
open Go.RowKit

theorem begun_parse : prefP [49, 48, 46, 48, 46, 48, 46, 49, 47, 56] = ((addr0, 0), 5) := by kernel_rfl
theorem begun_format : prefT (maskM (hostM 0 0) 8) (8 : Int) = [49, 48, 46, 48, 46, 48, 46, 48, 47, 56] := by
  have hv : validM (maskM (hostM 0 0) 8) (8 : Int) = true := by decide +kernel
  have hs : soundM (maskM (hostM 0 0) 8) = true := by decide +kernel
  have h6 : (maskM (hostM 0 0) 8).six = false := rfl
  have e : ((List.range 4).map fun i => decT ((maskM (hostM 0 0) 8).ip.getD i 0).toNat) = [decT 10, decT 0, decT 0, decT 0] := by
    have h0 : ((maskM (hostM 0 0) 8).ip.getD 0 0).toNat = 10 := by decide +kernel
    have h1 : ((maskM (hostM 0 0) 8).ip.getD 1 0).toNat = 0 := by decide +kernel
    have h2 : ((maskM (hostM 0 0) 8).ip.getD 2 0).toNat = 0 := by decide +kernel
    have h3 : ((maskM (hostM 0 0) 8).ip.getD 3 0).toNat = 0 := by decide +kernel
    rw [range4]
    simp only [List.map_cons, List.map_nil, h0, h1, h2, h3]
  rw [prefT, if_neg (by rw [hv]; decide), addrT, if_neg (by rw [hs]; decide), if_neg (by rw [h6]; decide), e, show (8 : Int).toNat = 8 from rfl, show decT 10 = [49, 48] from by rw [decT_big (by omega), decT_small (by omega)]; rfl, show decT 0 = [48] from by rw [decT_small (by omega)]; rfl, show decT 8 = [56] from by rw [decT_small (by omega)]; rfl]
  rfl
set_option maxRecDepth 100000 in
set_option maxHeartbeats 4000000 in
theorem cf_begun_any (HFP : CfFmtPrefC 41) (HPP : CfParsePrefC 40) (w : World) (hlv : LvCf w) : Calls Tryz.prog 14 #[] w fun e w' => e = .returned (.bool true) ∧ Below w.heap.size w w' := by
  have HLV := Lib.hid hlv
  have hok0 : (hostM 0 0).ok := rfl
  have hok : (maskM (hostM 0 0) 8).ok := maskM_ok _ hok0 8
  have HH := Lib.hid (fun W : World => (show Calls Tryz.prog 39 #[.int .i64 0, .int .i64 0] W (fun e w' => e = .returned (.agg (hostM 0 0).cells.toArray) ∧ Below W.heap.size W w') from caseHost_any 0 0 W))
  have HK := Lib.hid (fun W : World => (show Calls Tryz.prog 38 #[.agg (hostM 0 0).cells.toArray, .int .i64 8] W (fun e w' => e = .returned (.agg (prefC (maskM (hostM 0 0) 8) (8 : Int)).toArray) ∧ Below W.heap.size W w') from caseMasked_any (hostM 0 0) hok0 8 (by omega) W))
  have HP := Lib.hid (fun (W : World) (hW : LvCf W) => (show Calls Tryz.prog 40 #[.string ⟨#[49, 48, 46, 48, 46, 48, 46, 49, 47, 56]⟩] W (fun e w' => e = .returned (.tuple #[.agg (prefC addr0 0).toArray, .int .i64 5]) ∧ Below W.heap.size W w') from by
    have h := HPP [49, 48, 46, 48, 46, 48, 46, 49, 47, 56] (by decide) W hW
    rw [begun_parse] at h
    exact h))
  have HF := Lib.hid (fun (W : World) (hW : LvCf W) => (show Calls Tryz.prog 41 #[.agg (prefC (maskM (hostM 0 0) 8) (8 : Int)).toArray] W (fun e w' => e = .returned (.string ⟨#[49, 48, 46, 48, 46, 48, 46, 48, 47, 56]⟩) ∧ Below W.heap.size W w') from by
    have h := HFP (maskM (hostM 0 0) 8) hok 8 (by omega) (by omega) W hW
    rw [begun_format] at h
    exact h))
  have HUP := Lib.hid (pref_cellsOf (maskM (hostM 0 0) 8) hok (8 : Int))
  have HU0 := Lib.hid (pref_cellsOf addr0 addr0_ok 0)
  have HZP := Lib.hid (show (prefC addr0 0).length = (prefC (maskM (hostM 0 0) 8) (8 : Int)).length from (prefC_length addr0 addr0_ok 0).trans (prefC_length _ hok _).symm)
  obtain ⟨ch, hch⟩ : ∃ z, (hostM 0 0).cells.toArray = z := ⟨_, rfl⟩
  obtain ⟨cm, hcm⟩ : ∃ z, (prefC (maskM (hostM 0 0) 8) (8 : Int)).toArray = z := ⟨_, rfl⟩
  obtain ⟨c0, hc0⟩ : ∃ z, (prefC addr0 0).toArray = z := ⟨_, rfl⟩
  rw [hch] at HH HK
  rw [hcm] at HK HF
  rw [hc0] at HP
  have HCM := Lib.hid hcm
  have HC0 := Lib.hid hc0
  have HM := Lib.hid (Mem.nil w)
  clear hch hcm hc0 hok0 hlv
  generalize maskM (hostM 0 0) 8 = mm at HCM HUP HZP
  go_enter Tryz.func14, Tryz.ntmps14
  go_wp2_with fail
  refine (HH.out _).mono ?_
  rintro e w1 ⟨rfl, hb⟩
  replace HM := Lib.hid (HM.out.below hb)
  clear hb HH
  go_wp2_with fail
  refine (HK.out _).mono ?_
  rintro e w2 ⟨rfl, hb⟩
  replace HM := Lib.hid (HM.out.below hb)
  have HMZ := Lib.hid (show Mem w [blkE w2.heap.size 62 (prefC addr0 0)] (w2.alloc (.cells #[.bool false, .int .u8 0, .int .u8 0, .int .u8 0, .int .u8 0, .int .u8 0, .int .u8 0, .int .u8 0, .int .u8 0, .int .u8 0, .int .u8 0, .int .u8 0, .int .u8 0, .int .u8 0, .int .u8 0, .int .u8 0, .int .u8 0, .int .i64 0] 62)) from HM.out.alloc rfl 62 #[.bool false, .int .u8 0, .int .u8 0, .int .u8 0, .int .u8 0, .int .u8 0, .int .u8 0, .int .u8 0, .int .u8 0, .int .u8 0, .int .u8 0, .int .u8 0, .int .u8 0, .int .u8 0, .int .u8 0, .int .u8 0, .int .u8 0, .int .i64 0] (prefC addr0 0) rfl)
  clear hb HK HM
  go_upto_region 2 with (refine wpList_store_blk rfl 62 (.tmp 1) (.tmp 5) rfl w2.heap.size (prefC mm (8 : Int)) rfl (by show Value.agg cm = _; rw [HCM.out]) 62 (prefC addr0 0) (HMZ.out.blk 0 rfl) HUP.out HZP.out (prefC_one _ _) ?_; intro w3 hb3 hg3)
  (try simp only [Act.put])
  have hm3 := HMZ.out.put 0 rfl _ hg3 hb3
  clear hb3 hg3 HMZ
  generalize w2.heap.size = g1 at hm3 ⊢
  have HM := Lib.hid (show Mem w [blkE g1 62 (prefC mm (8 : Int))] w3 from hm3)
  clear hm3
  go_wp2_with fail
  refine (HP.out _ (HLV.out.below HM.out.bel)).mono ?_
  rintro e w4 ⟨rfl, hb⟩
  replace HM := Lib.hid (show Mem w [blkE g1 62 (prefC mm (8 : Int))] w4 from HM.out.below hb)
  have HMZ := Lib.hid (show Mem w [blkE w4.heap.size 62 (prefC addr0 0), blkE g1 62 (prefC mm (8 : Int))] (w4.alloc (.cells #[.bool false, .int .u8 0, .int .u8 0, .int .u8 0, .int .u8 0, .int .u8 0, .int .u8 0, .int .u8 0, .int .u8 0, .int .u8 0, .int .u8 0, .int .u8 0, .int .u8 0, .int .u8 0, .int .u8 0, .int .u8 0, .int .u8 0, .int .i64 0] 62)) from HM.out.alloc rfl 62 #[.bool false, .int .u8 0, .int .u8 0, .int .u8 0, .int .u8 0, .int .u8 0, .int .u8 0, .int .u8 0, .int .u8 0, .int .u8 0, .int .u8 0, .int .u8 0, .int .u8 0, .int .u8 0, .int .u8 0, .int .u8 0, .int .u8 0, .int .i64 0] (prefC addr0 0) rfl)
  clear hb HP HM
  go_upto_region 3 with (refine wpList_store_blk rfl 62 (.tmp 2) (.tmp 8) rfl w4.heap.size (prefC addr0 0) rfl (by show Value.agg c0 = _; rw [HC0.out]) 62 (prefC addr0 0) (HMZ.out.blk 0 rfl) HU0.out rfl (prefC_one _ _) ?_; intro w5 hb5 hg5)
  (try simp only [Act.put])
  have hm5 := HMZ.out.put 0 rfl _ hg5 hb5
  clear hb5 hg5 HMZ
  generalize w4.heap.size = g2 at hm5 ⊢
  have HM := Lib.hid (show Mem w [blkE g2 62 (prefC addr0 0), blkE g1 62 (prefC mm (8 : Int))] w5 from hm5)
  clear hm5
  go_wp2_with (refine wpList_load_obj rfl 62 (.tmp 1) rfl g1 0 rfl (prefC mm (8 : Int)) (HM.out.blk 1 rfl).all _ Tryz.underlying62 rfl HUP.out ?_)
  rw [HCM.out]
  refine (HF.out _ (HLV.out.below HM.out.bel)).mono ?_
  rintro e w6 ⟨rfl, hb⟩
  have HB := Lib.hid (HM.out.below hb).bel
  clear hb HF HM
  go_wp2
  go_ret
  exact ⟨rfl, HB.out⟩
end Go.Proofs.YthebekheejikgaaGreatDoor
namespace Go.Proofs.YthebekheejikgaaGreatDoor
open Go.RowKit

theorem key_same (k : List UInt8) (h : k.length = 32) (w : World) : (Op.equalIn 10000 24 (.agg (k.map u8v).toArray) (.agg (k.map u8v).toArray)).run Tryz.prog w = .ok true w := by
  rw [key_eq k k h h w]; simp
set_option maxRecDepth 100000 in
set_option maxHeartbeats 8000000 in
theorem cg_limits_walk (w : World) (k : List UInt8) (more : Nat) (hk : k.length = 32) (hm : more ≤ 255) (hlv : LvCf w) :
    Calls Tryz.prog 5 #[.agg (k.map u8v).toArray, .int .u8 (more : Int)] w fun e w' => e = .returned (.bool true) ∧ Below w.heap.size w w' := by
  have HK := Lib.hid hk
  have HLV := Lib.hid hlv
  have HTX := Lib.hid (fun W => refText_any k hk (k.map u8v).toArray rfl W)
  have HKS := Lib.hid (fun W => key_same k hk W)
  obtain ⟨ck, hck⟩ : ∃ z, (k.map u8v).toArray = z := ⟨_, rfl⟩
  rw [hck] at HTX HKS
  rw [hck]
  have HCK := Lib.hid hck
  have hadd1 := fun W => add_text [91, 73, 110, 116, 101, 114, 102, 97, 99, 101, 93, 10, 80, 114, 105, 118, 97, 116, 101, 75, 101, 121, 61] (textL k) (by decide) (by rw [textL_length]; decide) W
  have hadd2 := fun W => add_text ([91, 73, 110, 116, 101, 114, 102, 97, 99, 101, 93, 10, 80, 114, 105, 118, 97, 116, 101, 75, 101, 121, 61] ++ textL k) [10, 76, 105, 115, 116, 101, 110, 80, 111, 114, 116, 61, 49, 10, 35] (by rw [List.length_append, textL_length]; decide) (by decide) W
  rw [show [91, 73, 110, 116, 101, 114, 102, 97, 99, 101, 93, 10, 80, 114, 105, 118, 97, 116, 101, 75, 101, 121, 61] ++ textL k ++ [10, 76, 105, 115, 116, 101, 110, 80, 111, 114, 116, 61, 49, 10, 35] = limT k 0 from by simp [limT, tIface, privL, portL, noteL]] at hadd2
  obtain ⟨X1, hX1⟩ : ∃ S : ByteArray, ⟨([91, 73, 110, 116, 101, 114, 102, 97, 99, 101, 93, 10, 80, 114, 105, 118, 97, 116, 101, 75, 101, 121, 61] ++ textL k).toArray⟩ = S := ⟨_, rfl⟩
  obtain ⟨X0, hX0⟩ : ∃ S : ByteArray, ⟨(textL k).toArray⟩ = S := ⟨_, rfl⟩
  obtain ⟨X2, hX2⟩ : ∃ S : ByteArray, ⟨(limT k 0).toArray⟩ = S := ⟨_, rfl⟩
  simp only [hX0] at HTX
  rw [hX1] at hadd2
  simp only [hX0, hX1] at hadd1
  simp only [hX2] at hadd2
  have HX2 := Lib.hid hX2
  clear hX0 hX1 hX2
  have HM0 := Lib.hid ((Lows.nil w).alloc 24 ck (k.map u8v) hck.symm)
  obtain ⟨q, hq⟩ : ∃ q, 3998 + more % 5 = q := ⟨_, rfl⟩
  obtain ⟨r5, hr5⟩ : ∃ r, more % 5 = r := ⟨_, rfl⟩
  have e1 : (more : Int) % 5 = (r5 : Int) := by omega
  have e2 : (3998 : Int) + (r5 : Int) = (q : Int) := by omega
  have w1' : IntKind.i64.wrap (more : Int) = (more : Int) := by rw [IntKind.wrap_i64]; omega
  have w2' : IntKind.i64.wrap (q : Int) = (q : Int) := by rw [IntKind.wrap_i64]; omega
  have w3' : IntKind.i64.wrap (r5 : Int) = (r5 : Int) := by rw [IntKind.wrap_i64]; omega
  have HQ := Lib.hid (show 3998 ≤ q ∧ q ≤ 4002 from by omega)
  obtain ⟨g, hg⟩ : ∃ g, w.heap.size = g := ⟨_, rfl⟩
  have HM := Lib.hid (show Lows w [blkL g 24 (k.map u8v)] (w.alloc (.cells ck 24)) from by have h := HM0.out; rwa [hg] at h)
  clear hk hlv hck HM0 hq hr5 hm
  go_enter Tryz.func5, Tryz.ntmps5
  go_upto_region 1 with fail
  generalize w.alloc (.cells ck 24) = w1 at HM ⊢
  clear hg
  go_wp2_with ((with_reducible refine at_op (.load 24 (.tmp 2)) rfl ?_); refine wpList_load_obj rfl 24 (.tmp 2) rfl g 0 rfl (k.map u8v) (HM.out.blk 0 rfl).all _ Tryz.underlying24 rfl (size32 (by rw [List.length_map, HK.out])) ?_; rw [HCK.out])
  refine (HTX.out w1).mono ?_
  rintro e w2 ⟨rfl, hb⟩
  replace HM := Lib.hid (HM.out.below hb)
  clear hb HTX
  go_wp2_with fail
  clear hadd1 hadd2
  go_loopw [5] (fun v wr => ∃ j : Nat, 82 + j ≤ 4003 ∧ v = .string ⟨(limT k j).toArray⟩ ∧ Lows w [blkL g 24 (k.map u8v)] wr) (fun v _ => 5000 - strLen v)
  case atStart => exact ⟨0, by omega, by rw [HX2.out], HM.out⟩
  case round =>
    clear HM
    obtain ⟨j, hj, rfl, hM⟩ := hrel
    have HM := Lib.hid hM
    clear hM
    have hsz : (ByteArray.mk (limT k j).toArray).size = 82 + j := by rw [mk_size, limT_length]
    have hadd := fun W => add_text (limT k j) [46] (by rw [limT_length]; omega) (by decide) W
    rw [← limT_snoc] at hadd
    have hsz2 : (ByteArray.mk (limT k (j + 1)).toArray).size = 82 + (j + 1) := by rw [mk_size, limT_length]
    obtain ⟨S, hS⟩ : ∃ S : ByteArray, ⟨(limT k j).toArray⟩ = S := ⟨_, rfl⟩
    obtain ⟨S2, hS2⟩ : ∃ S : ByteArray, ⟨(limT k (j + 1)).toArray⟩ = S := ⟨_, rfl⟩
    rw [hS, hS2] at hadd
    rw [hS] at hsz
    rw [hS2] at hsz2
    rw [hS]
    by_cases hlt : 82 + j < q
    · have d1 : decide ((S.size : Int) < (q : Int)) = true := by simp; omega
      have d2 : decide (S.size < q) = true := decide_eq_true (by omega)
      have HS2 := Lib.hid hS2
      have HSZ := Lib.hid (And.intro hsz (And.intro hsz2 (And.intro hlt (HQ.out.2))))
      clear hS hS2 hsz hsz2 hlt hj
      go_wp2_with fail
      go_roundw
      case rel => exact ⟨j + 1, by have := HSZ.out; omega, by rw [HS2.out], HM.out⟩
      case measure =>
        have := HSZ.out
        simp [strLen]
        omega
    · have d1 : decide ((S.size : Int) < (q : Int)) = false := by simp; omega
      have d2 : decide (S.size < q) = false := decide_eq_false (by omega)
      have HS := Lib.hid hS
      have HSZ := Lib.hid (And.intro hsz (And.intro hlt hj))
      have HBG := Lib.hid (fun W (hb : Below w.heap.size w W) => cf_begun_any cfFmtPrefC cfParsePrefC W (HLV.out.below hb))
      obtain ⟨zc, hzc⟩ : ∃ z : Array Value, #[.int .u8 0, .int .u8 0, .int .u8 0, .int .u8 0, .int .u8 0, .int .u8 0, .int .u8 0, .int .u8 0, .int .u8 0, .int .u8 0, .int .u8 0, .int .u8 0, .int .u8 0, .int .u8 0, .int .u8 0, .int .u8 0, .int .u8 0, .int .u8 0, .int .u8 0, .int .u8 0, .int .u8 0, .int .u8 0, .int .u8 0, .int .u8 0, .int .u8 0, .int .u8 0, .int .u8 0, .int .u8 0, .int .u8 0, .int .u8 0, .int .u8 0, .int .u8 0, .int .i64 0, .slice none 0 0] = z := ⟨_, rfl⟩
      have HZC := Lib.hid (show zc.toList.length = 34 from by rw [← hzc]; rfl)
      by_cases h4 : 4000 < 82 + j
      · have d3 : decide ((S.size : Int) > 4000) = true := by simp; omega
        have d4 : decide (4000 < S.size) = true := decide_eq_true (by omega)
        have hpa := fun W => parse_long (limT k j) W (by rw [limT_length]; exact h4) (by rw [limT_length]; omega)
        rw [hS] at hpa
        have HPA := Lib.hid hpa
        have HS4 := Lib.hid (show 4000 < S.size from by omega)
        clear hS hpa hsz hsz2 hadd hS2 hlt hj h4
        go_upto_region 4 with fail
        clear d1 d2 d3 d4
        have d3 : decide ((S.size : Int) > 4000) = true := by have := HS4.out; simp; omega
        have d4 : decide (4000 < S.size) = true := decide_eq_true HS4.out
        go_wp2_with fail
        refine (HPA.out wr).mono ?_
        rintro e w5 ⟨rfl, hb⟩
        replace HM := Lib.hid (HM.out.below hb)
        clear hb HPA
        obtain ⟨cc, hcc⟩ : ∃ z, (conf0.cells (.slice none 0 0)).toArray = z := ⟨_, rfl⟩
        have HCC := Lib.hid hcc
        rw [hcc]
        have HNB := Lib.hid (show Blk (w5.alloc (.cells zc 27)) w5.heap.size 27 zc.toList from by simpa using Blk.new w5 27 zc.toList)
        clear hcc
        go_upto_region 5 with ((with_reducible refine at_op (.store 27 (.tmp 6) (.tmp 25)) rfl ?_); refine wpList_store_obj rfl 27 (.tmp 6) (.tmp 25) rfl w5.heap.size 0 (conf0.cells (.slice none 0 0)) rfl (by show Value.agg cc = _; rw [HCC.out]) 27 zc.toList HNB.out (conf_cellsOf conf0 conf0_ok _) (by rw [ConfM.cells_length conf0_ok, HZC.out]; decide) (conf_one conf0 none 0 0) ?_; intro w6 hb6 hg6)
        have hM6 := HM.out.stored hg6 hb6
        replace HM := Lib.hid hM6
        clear hM6 hb6 hg6 HNB
        go_wp2_with fail
        refine (HBG.out _ HM.out.bel).mono ?_
        rintro e w7 ⟨rfl, hb⟩
        replace HM := Lib.hid (HM.out.below hb)
        clear hb HBG
        go_wp2
        go_ret
        exact ⟨rfl, HM.out.bel⟩
      · have d3 : decide ((S.size : Int) > 4000) = false := by simp; omega
        have d4 : decide (4000 < S.size) = false := decide_eq_false (by omega)
        have hpa := fun W (hb : Below w.heap.size w W) => parse_ok lineI (limT k j) (limC k) W (HLV.out.below hb) (by rw [limT_length]; omega) (lim_ok k HK.out j) (lim_run k HK.out j) (lim_valid k) (by simp [limC]) (by simp [limC])
        rw [hS] at hpa
        have HPA := Lib.hid hpa
        clear hS hpa hsz hsz2 hadd hS2 hlt hj h4
        go_upto_region 4 with fail
        clear d1 d2
        go_wp2_with fail
        refine (HPA.out wr HM.out.bel).mono ?_
        rintro e w5 ⟨A, cap, rfl, _, hok, hb⟩
        have HOK := Lib.hid hok
        replace HM := Lib.hid (HM.out.below hb)
        clear hb HPA hok
        obtain ⟨v, hv⟩ : ∃ v, Value.slice A (limC k).peers.length cap = v := ⟨_, rfl⟩
        have HONE := Lib.hid (show ∀ u ∈ (limC k).cells v, u.oneCell' = true from by rw [← hv]; exact conf_one _ _ _ _)
        rw [hv]
        obtain ⟨cc, hcc⟩ : ∃ z, ((limC k).cells v).toArray = z := ⟨_, rfl⟩
        have HCC := Lib.hid hcc
        rw [hcc]
        have HNB := Lib.hid (show Blk (w5.alloc (.cells zc 27)) w5.heap.size 27 zc.toList from by simpa using Blk.new w5 27 zc.toList)
        clear hcc hv
        go_upto_region 5 with ((with_reducible refine at_op (.store 27 (.tmp 6) (.tmp 25)) rfl ?_); refine wpList_store_obj rfl 27 (.tmp 6) (.tmp 25) rfl w5.heap.size 0 ((limC k).cells v) rfl (by show Value.agg cc = _; rw [HCC.out]) 27 zc.toList HNB.out (conf_cellsOf (limC k) HOK.out _) (by rw [ConfM.cells_length HOK.out, HZC.out]; decide) HONE.out ?_; intro w6 hb6 hg6)
        rw [setL_all zc.toList _ (by rw [ConfM.cells_length HOK.out, HZC.out])] at hb6
        have hM6 := HM.out.stored hg6 hb6
        replace HM := Lib.hid hM6
        clear hb6 hg6 HNB
        generalize w5.heap.size = g6 at HM hM6 ⊢
        clear hM6
        have fp : w6.cell? ⟨g6, 0 + 32, none⟩ = some (.int .i64 1) := conf_port (HM.out.blk 0 rfl).all HOK.out
        rw [Nat.zero_add] at fp
        have hpr : At w6 g6 0 (k.map u8v) := fun i u hi => (HM.out.blk 0 rfl).all i u (by
          rw [ConfM.cells, show (limC k).priv = k from rfl, List.getElem?_append_left (List.getElem?_eq_some_iff.1 hi).1]; exact hi)
        have HPR := Lib.hid hpr
        clear hpr
        go_upto_region 7 with fail
        clear d3 d4
        go_wp2_with (first | ((with_reducible refine at_op (.load 24 (.tmp 47)) rfl ?_); refine wpList_load_obj_g (by rfl) 24 (.tmp 47) rfl g6 0 rfl (k.map u8v) HPR.out _ Tryz.underlying24 rfl (size32 (by rw [List.length_map, HK.out])) ?_; rw [HCK.out]) | ((with_reducible refine at_op (.load 24 (.tmp 2)) rfl ?_); refine wpList_load_obj_g (by rfl) 24 (.tmp 2) rfl g 0 rfl (k.map u8v) (HM.out.blk 1 rfl).all _ Tryz.underlying24 rfl (size32 (by rw [List.length_map, HK.out])) ?_; rw [HCK.out]) | (refine wpList_eql_agg (by rfl) 24 _ 48 49 rfl ck ck true rfl rfl key_noguard (HKS.out _) ?_))
        refine (HBG.out _ HM.out.bel).mono ?_
        rintro e w7 ⟨rfl, hb⟩
        replace HM := Lib.hid (HM.out.below hb)
        clear hb HBG
        go_wp2
        go_ret
        exact ⟨rfl, HM.out.bel⟩
end Go.Proofs.YthebekheejikgaaGreatDoor
namespace Go.Proofs.YthebekheejikgaaGreatDoor
open Go.RowKit

theorem cg_limits_all (w : World) (hlv : LvCf w) (k : List UInt8) (more : Nat) (hk : k.length = 32) (hm : more ≤ 255) :
    Calls Tryz.prog 5 #[.agg (k.map u8v).toArray, .int .u8 (more : Int)] w fun e w' => e = .returned (.bool true) ∧ Below w.heap.size w w' := cg_limits_walk w k more hk hm hlv
end Go.Proofs.YthebekheejikgaaGreatDoor
