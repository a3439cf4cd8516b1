/-
  The walk of WindowSets over what is asked of the program. No statement is proved here.
-/
import Derived.Test.YteidabgkidablaaWiOnce
import Derived.Test.YteidabgkidablaaRegion
import Derived.Test.YteidabgkidablaaRegionL
import Derived.Test.YteidabgkidablaaEqlG
import Derived.RegionTactic
import Derived.Deep.DeepCutAuto
namespace Go.Proofs.Yteidabgkidablaa
open Go.RowKit

theorem exec_load_win (a : Act) (o : Oper) (x : Operand) (ho : o.op = .load 25 x) (g off : Nat) (hx : a.eval x = .pointer (some ⟨g, off, none⟩)) (y : WinM) (hy : y.ok) (w : World) (h : At w g off y.cells) (arr : Array Value) (hr : y.cells.toArray = arr) : (execOp a.eval o).run Try.prog w = .ok (.value (.agg arr)) w := by
  subst hr
  unfold execOp
  simp only [ho, hx, Instr.loadAt, Instr.sureAddr, Sem.run_bind, Sem.run_pure, Result.andThen_ok, run_load_obj w g off 25 y.cells h _ Try.underlying25 rfl (win_cellsOf y hy)]
theorem u8Info : (Try.prog.info? 5).map (fun i => (i.zero, i.size, i.bytes)) = some (some (.int .u8 0), 1, 1) := by kernel_rfl
theorem rd_ahead {W : World} {B n : Nat} {A : Option Addr} {l : List UInt8} (h : Rd W B A n l) (i c : Nat) (hi : i ≤ n) : Rd W B (addrK A 0 c 1) i (l.take i) := by
  rcases Nat.eq_zero_or_pos i with h0 | h0
  · subst h0
    rw [List.take_zero]
    exact Rd.nil _ _ _
  · obtain ⟨b, off, rfl, _, _⟩ := h.2 (by omega)
    rw [addrK_zero_some]
    exact h.take hi
/-- a counter within the four blocks from base on -/
theorem sets_step {x : WinM} {S : List Nat} (h : WInv x S) {base c : Nat} (hb : base % 64 = 0) (hS : ∀ z ∈ S, base ≤ z ∧ z < base + 256) (hc : base ≤ c ∧ c < base + 256) (hlt : c < 18446744073709551616) :
    ∃ S2, WInv (acceptM x c).1 S2 ∧ ∀ z, z ∈ S2 ↔ z ∈ S ∨ z = c := by
  have hi := accept_inv h hlt
  by_cases hm : c ∈ S
  · have hf : (acceptM x c).2 = false := by
      rw [hi.1, newM, List.contains_eq_mem, decide_eq_true hm]
      rfl
    refine ⟨S, by have := hi.2.2.1; rwa [hf, if_neg (by simp)] at this, fun z => ⟨.inl, fun h => ?_⟩⟩
    rcases h with h | rfl
    · exact h
    · exact hm
  · have ht : (acceptM x c).2 = true := by
      have hold : (!S.isEmpty && decide (c / 64 + 4 ≤ x.top / 64)) = false := by
        rcases h with ⟨rfl, _⟩ | ⟨_, _, htS, _⟩
        · rfl
        · have := hS _ htS
          have : decide (c / 64 + 4 ≤ x.top / 64) = false := by simp; omega
          rw [this, Bool.and_false]
      rw [hi.1, newM, List.contains_eq_mem, decide_eq_false hm, hold]
      rfl
    refine ⟨c :: S, by have := hi.2.2.1; rwa [ht, if_pos rfl] at this, fun z => ?_⟩
    rw [List.mem_cons]
    exact ⟨fun h => h.symm, fun h => h.symm⟩
theorem inv_used {x : WinM} {S : List Nat} (h : WInv x S) : x.used = !S.isEmpty := by
  rcases h with ⟨rfl, rfl⟩ | ⟨hu, _, htS, _⟩
  · rfl
  · rw [hu]
    cases S with
    | nil => simp at htS
    | cons => rfl
/-- the counters of the first j bytes from the t-th on, around -/
def turnS (l : List UInt8) (base t j z : Nat) : Prop := ∃ i, i < j ∧ z = base + (l.getD ((i + t) % l.length) 0).toNat
theorem turn_step {l : List UInt8} {base t j z : Nat} : turnS l base t (j + 1) z ↔ turnS l base t j z ∨ z = base + (l.getD ((j + t) % l.length) 0).toNat := by
  constructor
  · rintro ⟨i, hi, h⟩
    rcases Nat.lt_or_ge i j with h1 | h1
    · exact .inl ⟨i, h1, h⟩
    · obtain rfl : i = j := by omega
      exact .inr h
  · rintro (⟨i, hi, h⟩ | h)
    · exact ⟨i, by omega, h⟩
    · exact ⟨j, by omega, h⟩
theorem turn_range {l : List UInt8} {base t j z : Nat} (h : turnS l base t j z) : base ≤ z ∧ z < base + 256 := by
  obtain ⟨i, _, rfl⟩ := h
  have := (l.getD ((i + t) % l.length) 0).toNat_lt
  omega
theorem turn_all (l : List UInt8) (base t z : Nat) : turnS l base t l.length z ↔ turnS l base 0 l.length z := by
  have key : ∀ a b, turnS l base a l.length z → turnS l base b l.length z := by
    rintro a b ⟨i, hi, rfl⟩
    have h0 : 0 < l.length := by omega
    refine ⟨(i + a + (l.length - b % l.length)) % l.length, Nat.mod_lt _ h0, ?_⟩
    congr 3
    have hbm := Nat.mod_lt b h0
    have hbd := Nat.div_add_mod b l.length
    have e : i + a + (l.length - b % l.length) + b = i + a + l.length * (b / l.length + 1) := by
      rw [Nat.mul_add, Nat.mul_one]
      omega
    rw [Nat.mod_add_mod, e, Nat.add_mul_mod_self_left]
  exact ⟨key t 0, key 0 t⟩
set_option maxRecDepth 100000 in
set_option maxHeartbeats 8000000 in
theorem wi_sets_walk (HA : WiAcceptC 6) (HCK : WiCheckC 8) (w : World) (As : Option Addr) (ns cs : Nat) (st : List UInt8) (f t : Nat) (hnc0 : ns ≤ cs) (hcm0 : cs ≤ maxLen) (hs : Rd w w.heap.size As ns st) (hf : f < 4294967296) (ht : t < 256) :
    Calls Try.prog 5 #[.slice As ns cs, .int .u32 (f : Int), .int .u8 (t : Int)] w fun e w' => e = .returned (.bool true) ∧ Below w.heap.size w w' := by
  have HBG := Lib.hid (fun W : World => wi_begun_any HA HCK W)
  have HAH := Lib.hid HA
  have hnc := And.intro hnc0 hcm0
  obtain ⟨mt, hmt⟩ : ∃ z, min ns 30 = z := ⟨_, rfl⟩
  have hmin : min (ns : Int) 30 = (mt : Int) := by omega
  obtain ⟨Aq, hAt⟩ : ∃ z, addrK As 0 cs 1 = z := ⟨_, rfl⟩
  obtain ⟨tt, htt⟩ : ∃ z, st.take mt = z := ⟨_, rfl⟩
  have hslr := ints_h Try.underlying38 u8Info As (n := ns) cs mt (by omega) hnc.1
  have hlt : Rd w w.heap.size Aq mt tt := by
    rw [← hAt, ← htt]
    exact rd_ahead hs mt cs (by omega)
  rw [hAt] at hslr
  have HLT := Lib.hid hlt
  have HTL := Lib.hid (show tt.length = mt from hlt.1)
  have HMT := Lib.hid (show mt ≤ 30 from by omega)
  obtain ⟨f1, hf1⟩ : ∃ z, f / 64 = z := ⟨_, rfl⟩
  obtain ⟨base, hbase⟩ : ∃ z, f1 * 64 = z := ⟨_, rfl⟩
  have e1 : (f : Int) / 64 = (f1 : Int) := by omega
  have e2 : (f1 : Int) * 64 = (base : Int) := by omega
  have w1' : IntKind.u64.wrap (f : Int) = (f : Int) := by rw [IntKind.wrap_u64]; omega
  have w2' : IntKind.u64.wrap (f1 : Int) = (f1 : Int) := by rw [IntKind.wrap_u64]; omega
  have w3' : IntKind.u64.wrap (base : Int) = (base : Int) := by rw [IntKind.wrap_u64]; omega
  have HBS := Lib.hid (show base % 64 = 0 ∧ base < 4294967296 from by omega)
  have HT := Lib.hid ht
  have HM := Lib.hid (show Mem w [blkE (w.heap.size + 1) 25 winZ, blkE w.heap.size 25 winZ] ((w.alloc (.cells #[.bool false, .int .u64 0, .int .u64 0, .int .u64 0, .int .u64 0, .int .u64 0] 25)).alloc (.cells #[.bool false, .int .u64 0, .int .u64 0, .int .u64 0, .int .u64 0, .int .u64 0] 25)) from by simpa using ((Mem.nil w).alloc rfl 25 #[.bool false, .int .u64 0, .int .u64 0, .int .u64 0, .int .u64 0, .int .u64 0] winZ rfl).alloc rfl 25 #[.bool false, .int .u64 0, .int .u64 0, .int .u64 0, .int .u64 0, .int .u64 0] winZ rfl)
  clear hs hnc hnc0 hcm0 hmt hAt htt hlt hf ht hf1 hbase HA HCK
  go_enter Try.func5, Try.ntmps5
  go_wp2_with (refine wpList_min_int rfl (.tmp 14) (.const (.int .i64 30)) #[3, 3] rfl (ns : Int) 30 (mt : Int) rfl rfl hmin ?_)
  clear hmin hslr e1 e2 w1' w2' w3'
  generalize (w.alloc (.cells #[.bool false, .int .u64 0, .int .u64 0, .int .u64 0, .int .u64 0, .int .u64 0] 25)).alloc (.cells #[.bool false, .int .u64 0, .int .u64 0, .int .u64 0, .int .u64 0, .int .u64 0] 25) = w1 at HM ⊢
  generalize w.heap.size + 1 = P10 at HM ⊢
  generalize hP9 : w.heap.size = P9 at HM ⊢
  clear hP9
  go_loopw [23] (fun i wr => ∃ (j : Nat) (xa xb : WinM) (Sa Sb : List Nat), j ≤ mt ∧ i = .int .i64 (j : Int) ∧ WInv xa Sa ∧ WInv xb Sb ∧ (∀ z, z ∈ Sa ↔ turnS tt base 0 j z) ∧ (∀ z, z ∈ Sb ↔ turnS tt base t j z) ∧ Mem w [blkE P10 25 xb.cells, blkE P9 25 xa.cells] wr) (fun i _ => mt - (intOf i).toNat)
  case atStart => exact ⟨0, win0, win0, [], [], Nat.zero_le _, rfl, WInv.nil, WInv.nil, fun z => ⟨fun h => by simp at h, fun ⟨i, h, _⟩ => by omega⟩, fun z => ⟨fun h => by simp at h, fun ⟨i, h, _⟩ => by omega⟩, HM.out⟩
  case round =>
    clear HM
    obtain ⟨j, xa, xb, Sa, Sb, hj, rfl, hia, hib, hsa, hsb, hM⟩ := hrel
    have HM := Lib.hid hM
    clear hM
    have hm30 := HMT.out
    by_cases hjn : j < mt
    · have d1 : decide ((j : Int) < (mt : Int)) = true := by simp; omega
      obtain ⟨bt, ot, rfl, hbt, hcell⟩ := HLT.out.2 (by omega)
      obtain ⟨q, hq⟩ : ∃ z, (j + t) % mt = z := ⟨_, rfl⟩
      have hqn : q < mt := by rw [← hq]; exact Nat.mod_lt _ (by omega)
      have hg : ∀ i (hi : i < mt), ∃ u : UInt8, tt.getD i 0 = u ∧ ∀ W, Below w.heap.size w W → W.cell? ⟨bt, ot + i, none⟩ = some (.int .u8 (u.toNat : Int)) := fun i hi => by
        have hil : i < tt.length := by rw [HTL.out]; exact hi
        refine ⟨tt[i], by rw [List.getD_eq_getElem?_getD, List.getElem?_eq_getElem hil]; rfl, fun W hW => (World.cell?_of_block (hW.block bt hbt)).trans (hcell i hil)⟩
      obtain ⟨ua, hua, hca⟩ := hg j hjn
      obtain ⟨ub, hub, hcb⟩ := hg q hqn
      have HLC := Lib.hid hca
      have HLD := Lib.hid hcb
      obtain ⟨na, hna⟩ : ∃ z, ua.toNat = z := ⟨_, rfl⟩
      obtain ⟨nb, hnb⟩ : ∃ z, ub.toNat = z := ⟨_, rfl⟩
      have hna2 := ua.toNat_lt
      have hnb2 := ub.toNat_lt
      rw [hna] at hna2 HLC
      rw [hnb] at hnb2 HLD
      have hbs := HBS.out
      obtain ⟨ca, hca2⟩ : ∃ z, base + na = z := ⟨_, rfl⟩
      obtain ⟨cb, hcb2⟩ : ∃ z, base + nb = z := ⟨_, rfl⟩
      have hra : ∀ z ∈ Sa, base ≤ z ∧ z < base + 256 := fun z hz => turn_range ((hsa z).1 hz)
      have hrb : ∀ z ∈ Sb, base ≤ z ∧ z < base + 256 := fun z hz => turn_range ((hsb z).1 hz)
      obtain ⟨Sa2, hia2, hsa2⟩ := sets_step hia hbs.1 hra (c := ca) (by omega) (by omega)
      obtain ⟨Sb2, hib2, hsb2⟩ := sets_step hib hbs.1 hrb (c := cb) (by omega) (by omega)
      obtain ⟨ya, ba, hya⟩ : ∃ y b, acceptM xa ca = (y, b) := ⟨_, _, rfl⟩
      obtain ⟨yb, bb, hyb⟩ : ∃ y b, acceptM xb cb = (y, b) := ⟨_, _, rfl⟩
      rw [hya] at hia2
      rw [hyb] at hib2
      have h1 := wa_use HAH.out hya hia.ok (by omega)
      have h2 := wa_use HAH.out hyb hib.ok (by omega)
      obtain ⟨xac, hxac⟩ : ∃ z, xa.cells.toArray = z := ⟨_, rfl⟩
      obtain ⟨xbc, hxbc⟩ : ∃ z, xb.cells.toArray = z := ⟨_, rfl⟩
      obtain ⟨yac, hyac⟩ : ∃ z, ya.cells.toArray = z := ⟨_, rfl⟩
      obtain ⟨ybc, hybc⟩ : ∃ z, yb.cells.toArray = z := ⟨_, rfl⟩
      rw [hxac, hyac] at h1
      rw [hxbc, hybc] at h2
      have H1 := Lib.hid h1
      have H2 := Lib.hid h2
      have HXAC := Lib.hid hxac
      have HXBC := Lib.hid hxbc
      have HYAC := Lib.hid hyac
      have HYBC := Lib.hid hybc
      have HXAO := Lib.hid hia.ok
      have HXBO := Lib.hid hib.ok
      have HYAO := Lib.hid hia2.ok
      have HYBO := Lib.hid hib2.ok
      have HIA := Lib.hid hia2
      have HIB := Lib.hid hib2
      have HSA := Lib.hid (show ∀ z, z ∈ Sa2 ↔ turnS tt base 0 (j + 1) z from fun z => by
        rw [hsa2, hsa, turn_step, Nat.add_zero, HTL.out, Nat.mod_eq_of_lt hjn, hua, hna, hca2])
      have HSB := Lib.hid (show ∀ z, z ∈ Sb2 ↔ turnS tt base t (j + 1) z from fun z => by
        rw [hsb2, hsb, turn_step, HTL.out, hq, hub, hnb, hcb2])
      have htt := HT.out
      have w1' : IntKind.u64.wrap (na : Int) = (na : Int) := by rw [IntKind.wrap_u64]; omega
      have w2' : IntKind.u64.wrap (nb : Int) = (nb : Int) := by rw [IntKind.wrap_u64]; omega
      have e1 : (base : Int) + (na : Int) = (ca : Int) := by omega
      have e2 : (base : Int) + (nb : Int) = (cb : Int) := by omega
      have w3' : IntKind.u64.wrap (ca : Int) = (ca : Int) := by rw [IntKind.wrap_u64]; omega
      have w4' : IntKind.u64.wrap (cb : Int) = (cb : Int) := by rw [IntKind.wrap_u64]; omega
      obtain ⟨jt, hjt⟩ : ∃ z, j + t = z := ⟨_, rfl⟩
      have hadd : (j : Int) + (t : Int) = (jt : Int) := by omega
      have haddw : IntKind.i64.wrap (jt : Int) = (jt : Int) := IntWalk.i64_in _ (by omega)
      have htw : IntKind.i64.wrap (t : Int) = (t : Int) := IntWalk.i64_in _ (by omega)
      have hrem : Int.tmod (jt : Int) (mt : Int) = (q : Int) := by rw [← hq, ← hjt]; rfl
      have hnz : ¬ mt = 0 := by omega
      have hqi : (q : Int) < (mt : Int) := by omega
      clear hia hib hsa hsb hq hqn hg hua hca hub hcb hna hnb hna2 hnb2 hbs hca2 hcb2 hra hrb hia2 hsa2 hib2 hsb2 hya hyb h1 h2 hxac hxbc hyac hybc htt hjt hbt hcell
      go_upto_region 7 with fail
      go_cut [] (fun wx => Mem w [blkE P10 25 xb.cells, blkE P9 25 ya.cells] wx)
      case first =>
        refine wp_region_held_drew (S := fun W' => Mem w [blkE P10 25 xb.cells] W') (by kernel_rfl) (((HM.out.erase 1)).drew) (fun hHeld => ?_)
        replace HM := Lib.hid HM.out.drew
        generalize wr.drew = wd1 at HM hHeld ⊢
        refine take_first (v := ?_) 1 rfl (by kernel_rfl) (by kernel_rfl) (by kernel_rfl) (fun _ _ _ h => h) (Or.inl ⟨by rfl, ?_⟩) (by assumption) ?_
        rotate_left
        · (intro w hSw; (try dsimp only at hSw); go_simp; try with_reducible rfl)
        (try simp only [Act.put, List.setIfInBounds_toArray, List.set_cons_zero, List.set_cons_succ])
        refine take_first (v := ?_) 2 rfl (by kernel_rfl) (by kernel_rfl) (by kernel_rfl) (fun _ _ _ h => h) (Or.inl ⟨by rfl, ?_⟩) (by assumption) ?_
        rotate_left
        · (intro w hSw; (try dsimp only at hSw); go_simp; try with_reducible rfl)
        (try simp only [Act.put, List.setIfInBounds_toArray, List.set_cons_zero, List.set_cons_succ])
        refine take_first (v := ?_) 3 rfl (by kernel_rfl) (by kernel_rfl) (by kernel_rfl) (fun _ _ _ h => h) (Or.inl ⟨by rfl, ?_⟩) (by assumption) ?_
        rotate_left
        · (intro w hSw; (try dsimp only at hSw); go_simp; try with_reducible rfl)
        (try simp only [Act.put, List.setIfInBounds_toArray, List.set_cons_zero, List.set_cons_succ])
        refine take_first (v := ?_) 4 rfl (by kernel_rfl) (by kernel_rfl) (by kernel_rfl) (fun _ _ _ h => h) (Or.inl ⟨by rfl, ?_⟩) (by assumption) ?_
        rotate_left
        · (intro w hSw; (try dsimp only at hSw); go_simp; try with_reducible rfl)
        (try simp only [Act.put, List.setIfInBounds_toArray, List.set_cons_zero, List.set_cons_succ])
        refine take_first (v := ?_) 5 rfl (by kernel_rfl) (by kernel_rfl) (by kernel_rfl) (fun _ _ _ h => h) (Or.inl ⟨by rfl, ?_⟩) (by assumption) ?_
        rotate_left
        · (intro w hSw; (try dsimp only at hSw); have fx := HLC.out w hSw.bel; go_simp; try with_reducible rfl)
        (try simp only [Act.put, List.setIfInBounds_toArray, List.set_cons_zero, List.set_cons_succ])
        refine take_first (v := ?_) 6 rfl (by kernel_rfl) (by kernel_rfl) (by kernel_rfl) (fun _ _ _ h => h) (Or.inl ⟨by rfl, ?_⟩) (by assumption) ?_
        rotate_left
        · (intro w hSw; (try dsimp only at hSw); go_simp; try with_reducible rfl)
        (try simp only [Act.put, List.setIfInBounds_toArray, List.set_cons_zero, List.set_cons_succ])
        refine take_first (v := ?_) 7 rfl (by kernel_rfl) (by kernel_rfl) (by kernel_rfl) (fun _ _ _ h => h) (Or.inl ⟨by rfl, ?_⟩) (by assumption) ?_
        rotate_left
        · (intro w hSw; (try dsimp only at hSw); go_simp; try with_reducible rfl)
        (try simp only [Act.put, List.setIfInBounds_toArray, List.set_cons_zero, List.set_cons_succ])
        refine take_load (v := ?_) [] 0 rfl (by kernel_rfl) (by kernel_rfl) (by kernel_rfl) (by kernel_rfl) (by kernel_rfl) (fun _ _ _ h => h) (Or.inl ⟨by rfl, ?_⟩) (by assumption) ?_
        rotate_left
        · (intro w hSw; subst hSw; refine exec_load_win _ _ (.tmp 9) ?_ P9 0 ?_ xa HXAO.out _ (HM.out.blk 1 rfl).all _ HXAC.out <;> rfl)
        (try simp only [Act.put, List.setIfInBounds_toArray, List.set_cons_zero, List.set_cons_succ])
        refine step_one 8 rfl (by kernel_rfl) (fun K hK => ?_)
        clear hHeld
        go_simp
        refine (H1.out _).mono ?_
        rintro e wy2 ⟨rfl, hb⟩
        replace HM := Lib.hid (show Mem w [blkE P10 25 xb.cells, blkE P9 25 xa.cells] wy2 from HM.out.below hb)
        clear hb
        go_wp2_with fail
        refine hK.out _ _ ((HM.out.erase 1)) (fun hHeld => ?_)
        clear hK K
        (try simp only [Act.put, List.setIfInBounds_toArray, List.set_cons_zero, List.set_cons_succ])
        refine take_first (v := ?_) 9 rfl (by kernel_rfl) (by kernel_rfl) (by kernel_rfl) (fun _ _ _ h => h) (Or.inl ⟨by rfl, ?_⟩) (by assumption) ?_
        rotate_left
        · (intro w hSw; (try dsimp only at hSw); go_simp; try with_reducible rfl)
        (try simp only [Act.put, List.setIfInBounds_toArray, List.set_cons_zero, List.set_cons_succ])
        refine take_first (v := ?_) 10 rfl (by kernel_rfl) (by kernel_rfl) (by kernel_rfl) (fun _ _ _ h => h) (Or.inl ⟨by rfl, ?_⟩) (by assumption) ?_
        rotate_left
        · (intro w hSw; (try dsimp only at hSw); go_simp; try with_reducible rfl)
        (try simp only [Act.put, List.setIfInBounds_toArray, List.set_cons_zero, List.set_cons_succ])
        refine take_first (v := ?_) 11 rfl (by kernel_rfl) (by kernel_rfl) (by kernel_rfl) (fun _ _ _ h => h) (Or.inl ⟨by rfl, ?_⟩) (by assumption) ?_
        rotate_left
        · (intro w hSw; (try dsimp only at hSw); go_simp; try with_reducible rfl)
        (try simp only [Act.put, List.setIfInBounds_toArray, List.set_cons_zero, List.set_cons_succ])
        refine step_one 12 rfl (by kernel_rfl) (fun K hK => ?_)
        clear hHeld
        refine step_store_obj rfl 25 (.tmp 9) (.tmp 36) rfl P9 0 ya.cells rfl (by show Value.agg yac = _; rw [HYAC.out]) 25 xa.cells (HM.out.blk 1 rfl) (win_cellsOf _ HYAO.out) (by rw [WinM.cells_length HYAO.out, WinM.cells_length HXAO.out]; omega) (win_one _) ?_
        intro wy3 hb hg
        rw [setL_all _ _ (by rw [WinM.cells_length HYAO.out, WinM.cells_length HXAO.out])] at hb
        replace HM := Lib.hid (show Mem w [blkE P10 25 xb.cells, blkE P9 25 ya.cells] wy3 from HM.out.put 1 rfl _ hg hb)
        clear hb hg
        refine hK.out _ _ ((HM.out.erase 1)) (fun hHeld => ?_)
        clear hK K
        (try simp only [Act.put])
        refine wpAnyH_done (by kernel_rfl) ?_ _
        clear hHeld
        have HM7 := Lib.hid HM.out
        clear HM
        go_wp2_with fail
        go_meet
        exact HM7.out
      case rest =>
        clear HM
        have HM := Lib.hid hcut
        clear hcut
        go_upto_region 8 with fail
        refine wp_region_held_drew (S := fun W' => Mem w [blkE P9 25 ya.cells] W') (by kernel_rfl) (((HM.out.erase 0)).drew) (fun hHeld => ?_)
        replace HM := Lib.hid HM.out.drew
        generalize wc.drew = wd1 at HM hHeld ⊢
        refine take_first (v := ?_) 1 rfl (by kernel_rfl) (by kernel_rfl) (by kernel_rfl) (fun _ _ _ h => h) (Or.inl ⟨by rfl, ?_⟩) (by assumption) ?_
        rotate_left
        · (intro w hSw; (try dsimp only at hSw); go_simp; try with_reducible rfl)
        (try simp only [Act.put, List.setIfInBounds_toArray, List.set_cons_zero, List.set_cons_succ])
        refine take_first (v := ?_) 2 rfl (by kernel_rfl) (by kernel_rfl) (by kernel_rfl) (fun _ _ _ h => h) (Or.inl ⟨by rfl, ?_⟩) (by assumption) ?_
        rotate_left
        · (intro w hSw; (try dsimp only at hSw); go_simp; try with_reducible rfl)
        (try simp only [Act.put, List.setIfInBounds_toArray, List.set_cons_zero, List.set_cons_succ])
        refine take_first (v := ?_) 3 rfl (by kernel_rfl) (by kernel_rfl) (by kernel_rfl) (fun _ _ _ h => h) (Or.inl ⟨by rfl, ?_⟩) (by assumption) ?_
        rotate_left
        · (intro w hSw; (try dsimp only at hSw); go_simp; try with_reducible rfl)
        (try simp only [Act.put, List.setIfInBounds_toArray, List.set_cons_zero, List.set_cons_succ])
        refine take_first (v := ?_) 4 rfl (by kernel_rfl) (by kernel_rfl) (by kernel_rfl) (fun _ _ _ h => h) (Or.inl ⟨by rfl, ?_⟩) (by assumption) ?_
        rotate_left
        · (intro w hSw; (try dsimp only at hSw); go_simp; try with_reducible rfl)
        (try simp only [Act.put, List.setIfInBounds_toArray, List.set_cons_zero, List.set_cons_succ])
        refine take_first (v := ?_) 5 rfl (by kernel_rfl) (by kernel_rfl) (by kernel_rfl) (fun _ _ _ h => h) (Or.inl ⟨by rfl, ?_⟩) (by assumption) ?_
        rotate_left
        · (intro w hSw; (try dsimp only at hSw); go_simp; try with_reducible rfl)
        (try simp only [Act.put, List.setIfInBounds_toArray, List.set_cons_zero, List.set_cons_succ])
        refine take_first (v := ?_) 6 rfl (by kernel_rfl) (by kernel_rfl) (by kernel_rfl) (fun _ _ _ h => h) (Or.inl ⟨by rfl, ?_⟩) (by assumption) ?_
        rotate_left
        · (intro w hSw; (try dsimp only at hSw); have s := hadd; go_simp; try with_reducible rfl)
        (try simp only [Act.put, List.setIfInBounds_toArray, List.set_cons_zero, List.set_cons_succ])
        refine take_first (v := ?_) 7 rfl (by kernel_rfl) (by kernel_rfl) (by kernel_rfl) (fun _ _ _ h => h) (Or.inl ⟨by rfl, ?_⟩) (by assumption) ?_
        rotate_left
        · (intro w hSw; (try dsimp only at hSw); go_simp; try with_reducible rfl)
        (try simp only [Act.put, List.setIfInBounds_toArray, List.set_cons_zero, List.set_cons_succ])
        refine take_first (v := ?_) 8 rfl (by kernel_rfl) (by kernel_rfl) (by kernel_rfl) (fun _ _ _ h => h) (Or.inl ⟨by rfl, ?_⟩) (by assumption) ?_
        rotate_left
        · (intro w hSw; (try dsimp only at hSw); go_simp; try with_reducible rfl)
        (try simp only [Act.put, List.setIfInBounds_toArray, List.set_cons_zero, List.set_cons_succ])
        refine take_first (v := ?_) 9 rfl (by kernel_rfl) (by kernel_rfl) (by kernel_rfl) (fun _ _ _ h => h) (Or.inl ⟨by rfl, ?_⟩) (by assumption) ?_
        rotate_left
        · (intro w hSw; (try dsimp only at hSw); have s := hrem; go_simp; try with_reducible rfl)
        (try simp only [Act.put, List.setIfInBounds_toArray, List.set_cons_zero, List.set_cons_succ])
        refine take_first (v := ?_) 10 rfl (by kernel_rfl) (by kernel_rfl) (by kernel_rfl) (fun _ _ _ h => h) (Or.inl ⟨by rfl, ?_⟩) (by assumption) ?_
        rotate_left
        · (intro w hSw; (try dsimp only at hSw); go_simp; try with_reducible rfl)
        (try simp only [Act.put, List.setIfInBounds_toArray, List.set_cons_zero, List.set_cons_succ])
        refine take_first (v := ?_) 11 rfl (by kernel_rfl) (by kernel_rfl) (by kernel_rfl) (fun _ _ _ h => h) (Or.inl ⟨by rfl, ?_⟩) (by assumption) ?_
        rotate_left
        · (intro w hSw; (try dsimp only at hSw); have fx := HLD.out w hSw.bel; go_simp; try with_reducible rfl)
        (try simp only [Act.put, List.setIfInBounds_toArray, List.set_cons_zero, List.set_cons_succ])
        refine take_first (v := ?_) 12 rfl (by kernel_rfl) (by kernel_rfl) (by kernel_rfl) (fun _ _ _ h => h) (Or.inl ⟨by rfl, ?_⟩) (by assumption) ?_
        rotate_left
        · (intro w hSw; (try dsimp only at hSw); go_simp; try with_reducible rfl)
        (try simp only [Act.put, List.setIfInBounds_toArray, List.set_cons_zero, List.set_cons_succ])
        refine take_first (v := ?_) 13 rfl (by kernel_rfl) (by kernel_rfl) (by kernel_rfl) (fun _ _ _ h => h) (Or.inl ⟨by rfl, ?_⟩) (by assumption) ?_
        rotate_left
        · (intro w hSw; (try dsimp only at hSw); go_simp; try with_reducible rfl)
        (try simp only [Act.put, List.setIfInBounds_toArray, List.set_cons_zero, List.set_cons_succ])
        refine take_load (v := ?_) [] 0 rfl (by kernel_rfl) (by kernel_rfl) (by kernel_rfl) (by kernel_rfl) (by kernel_rfl) (fun _ _ _ h => h) (Or.inl ⟨by rfl, ?_⟩) (by assumption) ?_
        rotate_left
        · (intro w hSw; subst hSw; refine exec_load_win _ _ (.tmp 10) ?_ P10 0 ?_ xb HXBO.out _ (HM.out.blk 0 rfl).all _ HXBC.out <;> rfl)
        (try simp only [Act.put, List.setIfInBounds_toArray, List.set_cons_zero, List.set_cons_succ])
        refine step_one 14 rfl (by kernel_rfl) (fun K hK => ?_)
        clear hHeld
        go_simp
        refine (H2.out _).mono ?_
        rintro e wy2 ⟨rfl, hb⟩
        replace HM := Lib.hid (show Mem w [blkE P10 25 xb.cells, blkE P9 25 ya.cells] wy2 from HM.out.below hb)
        clear hb
        go_wp2_with fail
        refine hK.out _ _ ((HM.out.erase 0)) (fun hHeld => ?_)
        clear hK K
        (try simp only [Act.put, List.setIfInBounds_toArray, List.set_cons_zero, List.set_cons_succ])
        refine take_first (v := ?_) 15 rfl (by kernel_rfl) (by kernel_rfl) (by kernel_rfl) (fun _ _ _ h => h) (Or.inl ⟨by rfl, ?_⟩) (by assumption) ?_
        rotate_left
        · (intro w hSw; (try dsimp only at hSw); go_simp; try with_reducible rfl)
        (try simp only [Act.put, List.setIfInBounds_toArray, List.set_cons_zero, List.set_cons_succ])
        refine take_first (v := ?_) 16 rfl (by kernel_rfl) (by kernel_rfl) (by kernel_rfl) (fun _ _ _ h => h) (Or.inl ⟨by rfl, ?_⟩) (by assumption) ?_
        rotate_left
        · (intro w hSw; (try dsimp only at hSw); go_simp; try with_reducible rfl)
        (try simp only [Act.put, List.setIfInBounds_toArray, List.set_cons_zero, List.set_cons_succ])
        refine take_first (v := ?_) 17 rfl (by kernel_rfl) (by kernel_rfl) (by kernel_rfl) (fun _ _ _ h => h) (Or.inl ⟨by rfl, ?_⟩) (by assumption) ?_
        rotate_left
        · (intro w hSw; (try dsimp only at hSw); go_simp; try with_reducible rfl)
        (try simp only [Act.put, List.setIfInBounds_toArray, List.set_cons_zero, List.set_cons_succ])
        refine step_one 18 rfl (by kernel_rfl) (fun K hK => ?_)
        clear hHeld
        refine step_store_obj rfl 25 (.tmp 10) (.tmp 54) rfl P10 0 yb.cells rfl (by show Value.agg ybc = _; rw [HYBC.out]) 25 xb.cells (HM.out.blk 0 rfl) (win_cellsOf _ HYBO.out) (by rw [WinM.cells_length HYBO.out, WinM.cells_length HXBO.out]; omega) (win_one _) ?_
        intro wy3 hb hg
        rw [setL_all _ _ (by rw [WinM.cells_length HYBO.out, WinM.cells_length HXBO.out])] at hb
        replace HM := Lib.hid (show Mem w [blkE P10 25 yb.cells, blkE P9 25 ya.cells] wy3 from HM.out.put 0 rfl _ hg hb)
        clear hb hg
        refine hK.out _ _ ((HM.out.erase 0)) (fun hHeld => ?_)
        clear hK K
        (try simp only [Act.put])
        refine wpAnyH_done (by kernel_rfl) ?_ _
        clear hHeld
        have HM8 := Lib.hid HM.out
        clear HM
        go_wp2_with fail
        go_roundw
        case rel => exact ⟨j + 1, ya, yb, Sa2, Sb2, by omega, by go_num, HIA.out, HIB.out, HSA.out, HSB.out, HM8.out⟩
        case measure => simp [intOf]; omega
    · obtain rfl : mt = j := by omega
      have d1 : decide ((mt : Int) < (mt : Int)) = false := by simp
      have hxab : xa = xb := hia.same hib fun z => by
        rw [hsa, hsb, ← HTL.out]
        exact (turn_all tt base t z).symm
      subst hxab
      have hus := inv_used hia
      have hem : (!Sa.isEmpty) = decide ((mt : Int) > 0) := by
        rw [Bool.eq_iff_iff, decide_eq_true_iff]
        cases Sa with
        | nil =>
          simp only [List.isEmpty_nil, Bool.not_true, Bool.false_eq_true, false_iff]
          intro h
          have := (hsa (base + (tt.getD 0 0).toNat)).2 ⟨0, by omega, by rw [Nat.zero_add, Nat.zero_mod]⟩
          simp at this
        | cons c S =>
          obtain ⟨i, hi, _⟩ := (hsa c).1 (List.mem_cons_self ..)
          simp only [List.isEmpty_cons, Bool.not_false, true_iff]
          omega
      rw [hem] at hus
      have HXO := Lib.hid hia.ok
      obtain ⟨xc, hxc⟩ : ∃ z, xa.cells.toArray = z := ⟨_, rfl⟩
      have HXC := Lib.hid hxc
      have HQY := Lib.hid (show ∀ W : World, (Op.equalIn 10000 25 (.agg xc) (.agg xc)).run Try.prog W = .ok true W from fun W => by rw [← hxc]; exact win_eqd xa xa hia.ok hia.ok W true (by simp))
      obtain ⟨y, hy⟩ : ∃ y, decide ((mt : Int) > 0) = y := ⟨_, rfl⟩
      have hy2 : decide (0 < mt) = y := by rw [← hy, Bool.eq_iff_iff, decide_eq_true_iff, decide_eq_true_iff]; omega
      rw [hy] at hus
      have fu := win_used (HM.out.blk 1 rfl).all
      rw [hus] at fu
      clear hia hib hsa hsb hus hem hxc
      cases y with
      | true =>
        go_wp2_with (first | ((with_reducible refine at_op (.load 25 (.tmp 9)) rfl ?_); refine wpList_load_obj rfl 25 (.tmp 9) rfl P9 0 rfl xa.cells (HM.out.blk 1 rfl).all _ Try.underlying25 rfl (win_cellsOf _ HXO.out) ?_; rw [HXC.out]) | ((with_reducible refine at_op (.load 25 (.tmp 10)) rfl ?_); refine wpList_load_obj rfl 25 (.tmp 10) rfl P10 0 rfl xa.cells (HM.out.blk 0 rfl).all _ Try.underlying25 rfl (win_cellsOf _ HXO.out) ?_; rw [HXC.out]) | ((with_reducible refine at_op (.binOp .eql 25 (.tmp 57) (.tmp 58) 25) rfl ?_); refine wpList_eql_agg (by rfl) 25 25 57 58 rfl xc xc true rfl rfl win_noguard (HQY.out _) ?_))
        refine (HBG.out _).mono ?_
        rintro e wv ⟨rfl, hb⟩
        have HFF := Lib.hid ((HM.out.below hb).bel)
        clear hb HM
        go_wp2_with fail
        go_ret
        exact ⟨rfl, HFF.out⟩
      | false =>
        go_wp2_with (first | ((with_reducible refine at_op (.load 25 (.tmp 9)) rfl ?_); refine wpList_load_obj rfl 25 (.tmp 9) rfl P9 0 rfl xa.cells (HM.out.blk 1 rfl).all _ Try.underlying25 rfl (win_cellsOf _ HXO.out) ?_; rw [HXC.out]) | ((with_reducible refine at_op (.load 25 (.tmp 10)) rfl ?_); refine wpList_load_obj rfl 25 (.tmp 10) rfl P10 0 rfl xa.cells (HM.out.blk 0 rfl).all _ Try.underlying25 rfl (win_cellsOf _ HXO.out) ?_; rw [HXC.out]) | ((with_reducible refine at_op (.binOp .eql 25 (.tmp 57) (.tmp 58) 25) rfl ?_); refine wpList_eql_agg (by rfl) 25 25 57 58 rfl xc xc true rfl rfl win_noguard (HQY.out _) ?_))
        refine (HBG.out _).mono ?_
        rintro e wv ⟨rfl, hb⟩
        have HFF := Lib.hid ((HM.out.below hb).bel)
        clear hb HM
        go_wp2_with fail
        go_ret
        exact ⟨rfl, HFF.out⟩
end Go.Proofs.Yteidabgkidablaa
