/-
  The contract of the reference's InsertRoute. A row that was made is a block; bytes that were read stay. What a walk keeps of the memory that it has made, where the call changes one block of its caller's. The contracts of the choices that the statements are made of: Left, Next. The contracts of the choices that the statements are made of: Bytes, New, Cut. An address with another byte. A slice built of arrays of one size: its block holds them one behind the other. No statement is proved here.
-/
import Derived.RegionTactic
import Derived.Deep.DeepCutAuto
import Derived.Outline
import Derived.Test.YtnblofbbbkjhpaaRoutesLookupB3
namespace Go.Proofs.Ytnblofbbbkjhpaa
open Go.RowKit

theorem insM_bad {l : List RouteM} {a : AddrM} {b : Int} {k : List UInt8} (h : validM a b = false) : insM l a b k = ([], 1) := by rw [insM, if_pos h]
theorem insM_old {l : List RouteM} {a : AddrM} {b : Int} {k : List UInt8} {i : Nat} (h : validM a b = true) (hf : findM a b l = some i) : insM l a b k = (l.set i ⟨a, b, k⟩, 0) := by rw [insM, if_neg (by rw [h]; simp), hf]
theorem insM_full {l : List RouteM} {a : AddrM} {b : Int} {k : List UInt8} (h : validM a b = true) (hf : findM a b l = none) (hl : 16 ≤ l.length) : insM l a b k = ([], 12) := by
  rw [insM, if_neg (by rw [h]; simp), hf]
  exact if_pos hl
theorem insM_new {l : List RouteM} {a : AddrM} {b : Int} {k : List UInt8} (h : validM a b = true) (hf : findM a b l = none) (hl : ¬ 16 ≤ l.length) : insM l a b k = (l.take (aheadM a b l) ++ ⟨a, b, k⟩ :: l.drop (aheadM a b l), 0) := by
  rw [insM, if_neg (by rw [h]; simp), hf]
  exact if_neg hl
set_option maxRecDepth 100000 in
set_option maxHeartbeats 16000000 in
theorem refInsert_any (A : Option Addr) (n c : Nat) (l : List RouteM) (hn : n ≤ 1000) (a : AddrM) (bits : Int) (hoa : a.ok) (hob : inI64 bits) (k : List UInt8) (hk : k.length = 32) (w : World) (ha : RtRd w w.heap.size A n l) :
    Calls Try.prog 13 #[.slice A n c, .agg (prefC a bits).toArray, .agg (k.map u8v).toArray] w fun e w' => ∃ A' c', e = .returned (.tuple #[.slice A' (insM l a bits k).1.length c', .int .i64 ((insM l a bits k).2 : Int)]) ∧ RtRd w' w'.heap.size A' (insM l a bits k).1.length (insM l a bits k).1 ∧ (∀ ad, A' = some ad → w.heap.size ≤ ad.block) ∧ ((insM l a bits k).1.length ≤ c' ∧ c' ≤ maxLen) ∧ Below w.heap.size w w' := by
  have HA := Lib.hid ha
  have HOA := Lib.hid hoa
  have HOB := Lib.hid hob
  have HKL := Lib.hid hk
  obtain ⟨ik, hik, hiz, his, hib⟩ := routeInfo
  have HKI := Lib.hid (And.intro hik (And.intro hiz (And.intro his hib)))
  clear hik hiz his hib
  have hvc := refValid_any a hoa bits hob.1 hob.2
  have heqs := fun (r : RouteM) (hr : r.ok) (w' : World) => pref_eqd r.a a r.bits bits hr.1 hoa hr.2.2 hob w'
  have hbcs := fun (r : RouteM) (hr : r.ok) => refBefore_any a r.a bits r.bits hoa hr.1
  obtain ⟨pp, hpp⟩ : ∃ z, (prefC a bits).toArray = z := ⟨_, rfl⟩
  obtain ⟨kk, hkk⟩ : ∃ z, (k.map u8v).toArray = z := ⟨_, rfl⟩
  obtain ⟨nr, hnr⟩ : ∃ z, (⟨a, bits, k⟩ : RouteM).cells.toArray = z := ⟨_, rfl⟩
  have hbt := route_built ⟨a, bits, k⟩ ⟨hoa, hk, hob⟩
  have HNO := Lib.hid (show (⟨a, bits, k⟩ : RouteM).ok from ⟨hoa, hk, hob⟩)
  rw [show (prefC (⟨a, bits, k⟩ : RouteM).a (⟨a, bits, k⟩ : RouteM).bits).toArray = pp from hpp, show ((⟨a, bits, k⟩ : RouteM).peer.map u8v).toArray = kk from hkk, hnr] at hbt
  rw [hpp] at hvc heqs hbcs ⊢
  rw [hkk]
  have HPP := Lib.hid hpp
  have HKK := Lib.hid hkk
  have HNR := Lib.hid hnr
  have HBT := Lib.hid hbt
  have HVC := Lib.hid hvc
  have HEQS := Lib.hid heqs
  have HBCS := Lib.hid hbcs
  have hm := ((Lows.nil w).alloc 28 pp (prefC a bits) hpp.symm).alloc 30 kk (k.map u8v) hkk.symm
  have HM := Lib.hid (show Lows w [blkL (w.heap.size + 1) 30 (k.map u8v), blkL w.heap.size 28 (prefC a bits)] ((w.alloc (.cells pp 28)).alloc (.cells kk 30)) from by simpa using hm)
  clear ha hoa hob hk hpp hkk hnr hbt hvc heqs hbcs hm
  go_enter Try.func13, Try.ntmps13
  go_upto_region 1 with fail
  generalize (w.alloc (.cells pp 28)).alloc (.cells kk 30) = w1 at HM ⊢
  go_wp2_with (refine wpList_load_obj rfl 28 (.tmp 4) rfl w.heap.size 0 rfl (prefC a bits) ((HM.out.blk 1 rfl).all) _ Try.underlying28 rfl (pref_cellsOf' a HOA.out bits) ?_; rw [HPP.out])
  refine (HVC.out _).mono ?_
  rintro e w2 ⟨rfl, hb⟩
  replace HM := Lib.hid (HM.out.below hb)
  clear hb HVC w1
  obtain ⟨v, hv⟩ : ∃ v, validM a bits = v := ⟨_, rfl⟩
  rw [hv]
  cases v with
  | false =>
    have HV := Lib.hid (insM_bad (l := l) (k := k) hv)
    clear hv
    go_wp2_with fail
    go_ret2
    rw [HV.out]
    first | exact ⟨none, 0, rfl, RtRd.nil, (fun _ h => by cases h), ⟨Nat.le_refl _, by unfold maxLen; omega⟩, HM.out.bel⟩ | exact ⟨none, ⟨0, rfl⟩, RtRd.nil, (fun _ h => by cases h), ⟨Nat.le_refl _, by unfold maxLen; omega⟩, HM.out.bel⟩
  | true =>
    have hrl := (HA.out.1.below HM.out.bel)
    have HRL := Lib.hid hrl
    clear hrl
    go_upto_region 4 with (refine wpList_append_rows _ rfl (.const (.slice none 0 0)) (.tmp 14) 23 rfl w2.heap.size 37 ik _ 50 64 Try.underlying23 HKI.out.1 HKI.out.2.1 HKI.out.2.2.1 HKI.out.2.2.2 (by rfl) (by omega) (.slice none 0 0) 0 [] rfl (World.ownsRow_nil _ _ _ _) w.heap.size A n c (rtsV l) rfl HRL.out (rtsV_one _) (by unfold maxLen; omega) (by omega) (Nat.le_refl _) ?_; intro v3 w3 ho3 hg3 _)
    rw [Nat.zero_add, List.nil_append] at ho3
    have hb3 : Below w2.heap.size w2 w3 := (Below.refl w2.heap.size w2).grown hg3 (Nat.le_refl _) (fun q hq => by cases hq)
    obtain ⟨A9, c9, rfl, ha9⟩ : ∃ A9 c9, v3 = .slice A9 n c9 ∧ (n = 0 ∧ A9 = none ∧ c9 = 0 ∨ A9 ≠ none ∧ n ≤ c9) := by
      rcases ho3.2 with ⟨h, h0⟩ | ⟨g, cap, cur, h, _, _, hnc, _⟩
      · exact ⟨none, 0, by rw [h, h0], .inl ⟨h0, rfl, rfl⟩⟩
      · exact ⟨_, _, h, .inr ⟨by simp, hnc⟩⟩
    have HX3 := Lib.hid (show RtRd w3 w3.heap.size A9 n l ∧ Blk w3 w.heap.size 28 (prefC a bits) ∧ Blk w3 (w.heap.size + 1) 30 (k.map u8v) from ⟨RtRd.of_own HA.out.len HA.out.2 ho3, ((HM.out.below hb3).blk 1 rfl), ((HM.out.below hb3).blk 0 rfl)⟩)
    have HX0 := Lib.hid (show Below w.heap.size w w3 from HM.out.bel.trans (hb3.mono HM.out.size))
    have HO3 := Lib.hid (And.intro ho3 HM.out.size)
    have HA9 := Lib.hid ha9
    have hnc9 : n ≤ c9 := by rcases ha9 with ⟨h, _, h2⟩ | ⟨_, h⟩ <;> omega
    clear ho3 hg3 hb3 ha9 HM HRL
    have HVV := Lib.hid hv
    clear hv
    have HLN := Lib.hid HA.out.len
    have HALL := Lib.hid HA.out.2
    clear HA
    go_wp2_with fail
    go_loopw [18] (fun i wr => ∃ j : Nat, j ≤ n ∧ i = .int .i64 (j : Int) ∧ (∀ q (r : RouteM), q < j → l[q]? = some r → RouteM.is a bits r = false) ∧ Below w3.heap.size w3 wr) (fun i _ => n - (intOf i).toNat)
    case atStart => exact ⟨0, by omega, rfl, fun q r hq => absurd hq (by omega), Below.refl _ _⟩
    case round =>
      obtain ⟨j, hj, rfl, hs, hW⟩ := hrel
      have HW := Lib.hid hW
      have HS := Lib.hid hs
      clear hW hs
      by_cases hjn : j < n
      · have d1 : decide ((j : Int) < (n : Int)) = true := by simp; omega
        obtain ⟨g, off, rfl⟩ := HX3.out.1.1.addr (by omega)
        obtain ⟨g2, cap2, cur, hv3, hbg, hgg, hnc, hcm, hcs, htk⟩ : ∃ g2 cap cur, (Value.slice (some ⟨g, off, none⟩) n c9) = .slice (some ⟨g2, 0, none⟩) n cap ∧ w2.heap.size ≤ g2 ∧ w3.heap[g2]? = some (.cells cur 37 (0, 0)) ∧ n ≤ cap ∧ cap ≤ maxLen ∧ cur.size = cap * 50 ∧ cur.toList.take (n * 50) = (rtsV l).flatten := by
          rcases HO3.out.1.2 with ⟨h, _⟩ | h
          · simp at h
          · exact h
        injection hv3 with h1 _ h3
        injection h1 with h1
        injection h1 with h1 h2 _
        subst h1 h2 h3
        obtain ⟨r, hr⟩ : ∃ r, l[j]? = some r := ⟨l[j]'(by rw [HLN.out]; exact hjn), List.getElem?_eq_getElem _⟩
        have HOK := Lib.hid (HALL.out r (List.mem_of_getElem? hr))
        have hat := HX3.out.1.at j r hr
        have HLA := Lib.hid (show ∀ W, Below w3.heap.size w3 W → At W g (j * 50) (prefC r.a r.bits) from fun W hW => route_pref (by have := hat.2.mono hW hat.1; rwa [Nat.zero_add] at this))
        have hbm : Blk w3 g 37 cur.toList := hgg
        have HCU := Lib.hid (show Blk w3 g 37 cur.toList ∧ w2.heap.size ≤ g ∧ c9 ≤ maxLen ∧ cur.toList.length = c9 * 50 ∧ cur.toList.take (n * 50) = (rtsV l).flatten from ⟨hbm, hbg, hcm, by simpa using hcs, htk⟩)
        have HJR := Lib.hid hr
        clear hat hr hgg hbm hbg hcm hcs htk
        have heq := HEQS.out r HOK.out
        obtain ⟨rp, hrp⟩ : ∃ z, (prefC r.a r.bits).toArray = z := ⟨_, rfl⟩
        rw [hrp] at heq
        have HRP := Lib.hid hrp
        clear hrp
        go_upto_region 7 with fail
        clear d1
        by_cases hq : r.a = a ∧ r.bits = bits
        · rw [decide_eq_true hq] at heq
          have HEQ := Lib.hid heq
          have HV := Lib.hid (insM_old (k := k) HVV.out (findM_some HJR.out (by rw [RouteM.is, decide_eq_true_iff]; exact hq) HS.out))
          have HSE := Lib.hid hq
          clear heq hq
          refine wp_region_held_drew (S := fun W' => Below w3.heap.size w3 W') (by kernel_rfl) (HW.out.drew) (fun hHeld => ?_)
          refine take_first (v := ?_) 0 rfl (by kernel_rfl) (by kernel_rfl) (by kernel_rfl) (fun _ _ _ h => h) (Or.inl ⟨by rfl, ?_⟩) (by assumption) ?_
          rotate_left
          · (intro w hSw; (try dsimp only at hSw); go_simp; try with_reducible rfl)
          (try simp only [Act.put, List.setIfInBounds_toArray, List.set_cons_zero, List.set_cons_succ])
          refine take_first (v := ?_) 1 rfl (by kernel_rfl) (by kernel_rfl) (by kernel_rfl) (fun _ _ _ h => h) (Or.inl ⟨by rfl, ?_⟩) (by assumption) ?_
          rotate_left
          · (intro w hSw; (try dsimp only at hSw); go_simp; try with_reducible rfl)
          (try simp only [Act.put, List.setIfInBounds_toArray, List.set_cons_zero, List.set_cons_succ])
          refine take_first (v := ?_) 2 rfl (by kernel_rfl) (by kernel_rfl) (by kernel_rfl) (fun _ _ _ h => h) (Or.inl ⟨by rfl, ?_⟩) (by assumption) ?_
          rotate_left
          · (intro w hSw; (try dsimp only at hSw); go_simp; try with_reducible rfl)
          (try simp only [Act.put, List.setIfInBounds_toArray, List.set_cons_zero, List.set_cons_succ])
          refine take_first (v := ?_) 3 rfl (by kernel_rfl) (by kernel_rfl) (by kernel_rfl) (fun _ _ _ h => h) (Or.inl ⟨by rfl, ?_⟩) (by assumption) ?_
          rotate_left
          · (intro w hSw; (try dsimp only at hSw); go_simp; try with_reducible rfl)
          (try simp only [Act.put, List.setIfInBounds_toArray, List.set_cons_zero, List.set_cons_succ])
          refine take_first (v := .agg rp) 4 rfl (by kernel_rfl) (by kernel_rfl) (by kernel_rfl) (fun _ _ _ h => h) (by rw [← HRP.out]; exact yields_load_obj (by rfl) 28 (.tmp 24) rfl g _ rfl (prefC r.a r.bits) (fun W hW => HLA.out W hW) _ Try.underlying28 rfl (pref_cellsOf' r.a HOK.out.1 r.bits)) (by assumption) ?_
          (try simp only [Act.put, List.setIfInBounds_toArray, List.set_cons_zero, List.set_cons_succ])
          refine take_first (v := .agg pp) 5 rfl (by kernel_rfl) (by kernel_rfl) (by kernel_rfl) (fun _ _ _ h => h) (by rw [← HPP.out]; exact yields_load_obj (by rfl) 28 (.tmp 4) rfl w.heap.size 0 rfl (prefC a bits) (fun W hW => (HX3.out.2.1.all.mono hW HX3.out.2.1.lt)) _ Try.underlying28 rfl (pref_cellsOf' a HOA.out bits)) (by assumption) ?_
          (try simp only [Act.put, List.setIfInBounds_toArray, List.set_cons_zero, List.set_cons_succ])
          refine take_first (v := .bool true) 6 rfl (by kernel_rfl) (by kernel_rfl) (by kernel_rfl) (fun _ _ _ h => h) (yields_cmp_agg false (by rfl) 28 28 25 26 rfl rp pp true rfl rfl prefix_noguard (fun w' => HEQ.out w')) (by assumption) ?_
          (try simp only [Act.put, List.setIfInBounds_toArray, List.set_cons_zero, List.set_cons_succ])
          refine wpAnyH_done (by kernel_rfl) ?_ _
          have HBG := Lib.hid ((HCU.out.1).below hHeld HCU.out.1.lt)
          have HBK := Lib.hid (HX3.out.2.2.all.mono hHeld HX3.out.2.2.lt)
          have HWB := Lib.hid hHeld
          clear hHeld
          go_wp2_with (first | (refine wpList_load_obj rfl 30 (.tmp 5) rfl (w.heap.size + 1) 0 rfl (k.map u8v) HBK.out _ Try.underlying30 rfl (key_cellsOf k HKL.out) ?_; rw [HKK.out]) | (refine wpList_store_obj rfl 30 (.tmp 32) (.tmp 30) rfl g _ (k.map u8v) rfl (by show Value.agg kk = _; rw [HKK.out]) 37 cur.toList HBG.out (key_cellsOf k HKL.out) (by rw [HCU.out.2.2.2.1, List.length_map, HKL.out]; have := hnc; omega) (u8v_one _) ?_; intro w9 hb9 hg9))
          have hown9 := own_set (base := w2.heap.size) HALL.out HLN.out cur.toList HCU.out.2.2.2.1 hnc HCU.out.2.2.1 HCU.out.2.2.2.2 HCU.out.2.1 HJR.out k HKL.out hb9 hg9
          rw [HSE.out.1, HSE.out.2] at hown9
          have HF := Lib.hid (show RtRd w9 w9.heap.size (some ⟨g, 0, none⟩) n (l.set j ⟨a, bits, k⟩) ∧ (∀ ad, (some ⟨g, 0, none⟩ : Option Addr) = some ad → w.heap.size ≤ ad.block) ∧ (n ≤ c9 ∧ c9 ≤ maxLen) ∧ Below w.heap.size w w9 from ⟨RtRd.of_own (by rw [List.length_set]; exact HLN.out) (by have := set_peer_ok HALL.out HJR.out k HKL.out; rw [HSE.out.1, HSE.out.2] at this; exact this) hown9, (fun ad h => by injection h with h; subst h; exact Nat.le_trans HO3.out.2 HCU.out.2.1), ⟨hnc, HCU.out.2.2.1⟩, (HX0.out.trans (HWB.out.mono HX0.out.size)).grown hg9 (Nat.le_trans HX0.out.size HWB.out.size) (fun q hq => by injection hq with hq; have h1 := HCU.out.2.1; have h2 := HO3.out.2; omega)⟩)
          have hls : (l.set j ⟨a, bits, k⟩).length = n := by rw [List.length_set]; exact HLN.out
          clear hb9 hg9 hown9
          go_ret2
          rw [HV.out, hls]
          first | exact ⟨_, _, rfl, HF.out.1, HF.out.2⟩ | exact ⟨_, ⟨_, rfl⟩, HF.out.1, HF.out.2⟩
        · rw [decide_eq_false hq] at heq
          have HEQ := Lib.hid heq
          have HNS := Lib.hid (show RouteM.is a bits r = false by rw [RouteM.is, decide_eq_false_iff_not]; exact hq)
          clear heq hq
          refine wp_region_held_drew (S := fun W' => Below w3.heap.size w3 W') (by kernel_rfl) (HW.out.drew) (fun hHeld => ?_)
          refine take_first (v := ?_) 0 rfl (by kernel_rfl) (by kernel_rfl) (by kernel_rfl) (fun _ _ _ h => h) (Or.inl ⟨by rfl, ?_⟩) (by assumption) ?_
          rotate_left
          · (intro w hSw; (try dsimp only at hSw); go_simp; try with_reducible rfl)
          (try simp only [Act.put, List.setIfInBounds_toArray, List.set_cons_zero, List.set_cons_succ])
          refine take_first (v := ?_) 1 rfl (by kernel_rfl) (by kernel_rfl) (by kernel_rfl) (fun _ _ _ h => h) (Or.inl ⟨by rfl, ?_⟩) (by assumption) ?_
          rotate_left
          · (intro w hSw; (try dsimp only at hSw); go_simp; try with_reducible rfl)
          (try simp only [Act.put, List.setIfInBounds_toArray, List.set_cons_zero, List.set_cons_succ])
          refine take_first (v := ?_) 2 rfl (by kernel_rfl) (by kernel_rfl) (by kernel_rfl) (fun _ _ _ h => h) (Or.inl ⟨by rfl, ?_⟩) (by assumption) ?_
          rotate_left
          · (intro w hSw; (try dsimp only at hSw); go_simp; try with_reducible rfl)
          (try simp only [Act.put, List.setIfInBounds_toArray, List.set_cons_zero, List.set_cons_succ])
          refine take_first (v := ?_) 3 rfl (by kernel_rfl) (by kernel_rfl) (by kernel_rfl) (fun _ _ _ h => h) (Or.inl ⟨by rfl, ?_⟩) (by assumption) ?_
          rotate_left
          · (intro w hSw; (try dsimp only at hSw); go_simp; try with_reducible rfl)
          (try simp only [Act.put, List.setIfInBounds_toArray, List.set_cons_zero, List.set_cons_succ])
          refine take_first (v := .agg rp) 4 rfl (by kernel_rfl) (by kernel_rfl) (by kernel_rfl) (fun _ _ _ h => h) (by rw [← HRP.out]; exact yields_load_obj (by rfl) 28 (.tmp 24) rfl g _ rfl (prefC r.a r.bits) (fun W hW => HLA.out W hW) _ Try.underlying28 rfl (pref_cellsOf' r.a HOK.out.1 r.bits)) (by assumption) ?_
          (try simp only [Act.put, List.setIfInBounds_toArray, List.set_cons_zero, List.set_cons_succ])
          refine take_first (v := .agg pp) 5 rfl (by kernel_rfl) (by kernel_rfl) (by kernel_rfl) (fun _ _ _ h => h) (by rw [← HPP.out]; exact yields_load_obj (by rfl) 28 (.tmp 4) rfl w.heap.size 0 rfl (prefC a bits) (fun W hW => (HX3.out.2.1.all.mono hW HX3.out.2.1.lt)) _ Try.underlying28 rfl (pref_cellsOf' a HOA.out bits)) (by assumption) ?_
          (try simp only [Act.put, List.setIfInBounds_toArray, List.set_cons_zero, List.set_cons_succ])
          refine take_first (v := .bool false) 6 rfl (by kernel_rfl) (by kernel_rfl) (by kernel_rfl) (fun _ _ _ h => h) (yields_cmp_agg false (by rfl) 28 28 25 26 rfl rp pp false rfl rfl prefix_noguard (fun w' => HEQ.out w')) (by assumption) ?_
          (try simp only [Act.put, List.setIfInBounds_toArray, List.set_cons_zero, List.set_cons_succ])
          refine wpAnyH_done (by kernel_rfl) ?_ _
          have HWB := Lib.hid hHeld
          clear hHeld
          go_wp2_with fail
          go_roundw
          case rel => exact ⟨j + 1, by omega, by go_num, fun q r2 hq h2 => by
            by_cases he : q = j
            · subst he
              have := HJR.out
              rw [h2] at this
              injection this with this
              rw [this]; exact HNS.out
            · exact HS.out q r2 (by omega) h2, HWB.out⟩
          case measure => simp [intOf]; omega
      · obtain rfl : n = j := by omega
        have d1 : decide ((n : Int) < (n : Int)) = false := by simp
        have hf : findM a bits l = none := findM_none (fun i r hi => HS.out i r (by rw [← HLN.out]; exact (List.getElem?_eq_some_iff.1 hi).1) hi)
        by_cases h16 : 16 ≤ n
        · have HV := Lib.hid (insM_full (k := k) HVV.out hf (by rw [HLN.out]; exact h16))
          have d2 : decide ((n : Int) ≥ 16) = true := by simp; omega
          have HF := Lib.hid (HX0.out.trans (HW.out.mono HX0.out.size))
          clear hf
          go_wp2_with fail
          go_ret2
          rw [HV.out]
          first | exact ⟨none, 0, rfl, RtRd.nil, (fun _ h => by cases h), ⟨Nat.le_refl _, by unfold maxLen; omega⟩, HF.out⟩ | exact ⟨none, ⟨0, rfl⟩, RtRd.nil, (fun _ h => by cases h), ⟨Nat.le_refl _, by unfold maxLen; omega⟩, HF.out⟩
        · have HINS := Lib.hid (show ∀ i : Nat, i = aheadM a bits l → insM l a bits k = (l.take i ++ ⟨a, bits, k⟩ :: l.drop i, 0) from fun i hi => by subst hi; exact insM_new (k := k) HVV.out hf (by rw [HLN.out]; exact h16))
          have d2 : decide ((n : Int) ≥ 16) = false := by simp; omega
          have HW0 := Lib.hid HW.out
          clear hf HS HO3 HW
          have hale := aheadM_le a bits l
          rw [HLN.out] at hale
          go_wp2_with fail
          clear d1 d2
          go_loopw [10] (fun i wz => ∃ j : Nat, j ≤ aheadM a bits l ∧ i = .int .i64 (j : Int) ∧ Below w3.heap.size w3 wz) (fun i _ => n - (intOf i).toNat)
          case atStart => exact ⟨0, by omega, rfl, HW0.out⟩
          case round =>
            clear HW0
            obtain ⟨j, hj, rfl, hW⟩ := hrel
            have HW := Lib.hid hW
            clear hW
            have hjc : j ≤ c9 := by omega
            have hjn2 : j ≤ n := by omega
            by_cases hjn : j < n
            · have d1 : decide ((j : Int) < (n : Int)) = true := by simp; omega
              obtain ⟨g, off, rfl⟩ := HX3.out.1.1.addr (by omega)
              obtain ⟨r, hr⟩ : ∃ r, l[j]? = some r := ⟨l[j]'(by rw [HLN.out]; exact hjn), List.getElem?_eq_getElem _⟩
              have HOK := Lib.hid (HALL.out r (List.mem_of_getElem? hr))
              have hat := HX3.out.1.at j r hr
              have HLA := Lib.hid (show ∀ W, Below w3.heap.size w3 W → At W g (off + j * 50) (prefC r.a r.bits) from fun W hW => route_pref (hat.2.mono hW hat.1))
              have hbc := HBCS.out r HOK.out
              obtain ⟨rp, hrp⟩ : ∃ z, (prefC r.a r.bits).toArray = z := ⟨_, rfl⟩
              rw [hrp] at hbc
              have HRP := Lib.hid hrp
              have hst := aheadM_step a bits l j hj r hr
              clear hrp hat hr
              obtain ⟨v, hv⟩ : ∃ v, befM a bits r.a r.bits = v := ⟨_, rfl⟩
              rw [hv] at hbc hst
              have HBC := Lib.hid hbc
              clear hbc hv
              cases v with
              | false =>
                have hj1 := hst.1 rfl
                clear hst
                go_upto_region 14 with fail
                refine wp_region_held_drew (S := fun W' => Below w3.heap.size w3 W') (by kernel_rfl) (HW.out.drew) (fun hHeld => ?_)
                refine take_first (v := ?_) 0 rfl (by kernel_rfl) (by kernel_rfl) (by kernel_rfl) (fun _ _ _ h => h) (Or.inl ⟨by rfl, ?_⟩) (by assumption) ?_
                rotate_left
                · (intro w hSw; (try dsimp only at hSw); go_simp; try with_reducible rfl)
                (try simp only [Act.put, List.setIfInBounds_toArray, List.set_cons_zero, List.set_cons_succ])
                refine take_first (v := ?_) 1 rfl (by kernel_rfl) (by kernel_rfl) (by kernel_rfl) (fun _ _ _ h => h) (Or.inl ⟨by rfl, ?_⟩) (by assumption) ?_
                rotate_left
                · (intro w hSw; (try dsimp only at hSw); go_simp; try with_reducible rfl)
                (try simp only [Act.put, List.setIfInBounds_toArray, List.set_cons_zero, List.set_cons_succ])
                refine take_first (v := ?_) 2 rfl (by kernel_rfl) (by kernel_rfl) (by kernel_rfl) (fun _ _ _ h => h) (Or.inl ⟨by rfl, ?_⟩) (by assumption) ?_
                rotate_left
                · (intro w hSw; (try dsimp only at hSw); go_simp; try with_reducible rfl)
                (try simp only [Act.put, List.setIfInBounds_toArray, List.set_cons_zero, List.set_cons_succ])
                refine take_first (v := ?_) 3 rfl (by kernel_rfl) (by kernel_rfl) (by kernel_rfl) (fun _ _ _ h => h) (Or.inl ⟨by rfl, ?_⟩) (by assumption) ?_
                rotate_left
                · (intro w hSw; (try dsimp only at hSw); go_simp; try with_reducible rfl)
                (try simp only [Act.put, List.setIfInBounds_toArray, List.set_cons_zero, List.set_cons_succ])
                refine take_first (v := ?_) 4 rfl (by kernel_rfl) (by kernel_rfl) (by kernel_rfl) (fun _ _ _ h => h) (Or.inl ⟨by rfl, ?_⟩) (by assumption) ?_
                rotate_left
                · (intro w hSw; (try dsimp only at hSw); go_simp; try with_reducible rfl)
                (try simp only [Act.put, List.setIfInBounds_toArray, List.set_cons_zero, List.set_cons_succ])
                refine take_first (v := .agg pp) 5 rfl (by kernel_rfl) (by kernel_rfl) (by kernel_rfl) (fun _ _ _ h => h) (by rw [← HPP.out]; exact yields_load_obj (by rfl) 28 (.tmp 4) rfl w.heap.size 0 rfl (prefC a bits) (fun W hW => (HX3.out.2.1.all.mono hW HX3.out.2.1.lt)) _ Try.underlying28 rfl (pref_cellsOf' a HOA.out bits)) (by assumption) ?_
                (try simp only [Act.put, List.setIfInBounds_toArray, List.set_cons_zero, List.set_cons_succ])
                refine take_first (v := ?_) 6 rfl (by kernel_rfl) (by kernel_rfl) (by kernel_rfl) (fun _ _ _ h => h) (Or.inl ⟨by rfl, ?_⟩) (by assumption) ?_
                rotate_left
                · (intro w hSw; (try dsimp only at hSw); go_simp; try with_reducible rfl)
                (try simp only [Act.put, List.setIfInBounds_toArray, List.set_cons_zero, List.set_cons_succ])
                refine take_first (v := ?_) 7 rfl (by kernel_rfl) (by kernel_rfl) (by kernel_rfl) (fun _ _ _ h => h) (Or.inl ⟨by rfl, ?_⟩) (by assumption) ?_
                rotate_left
                · (intro w hSw; (try dsimp only at hSw); go_simp; try with_reducible rfl)
                (try simp only [Act.put, List.setIfInBounds_toArray, List.set_cons_zero, List.set_cons_succ])
                refine take_first (v := ?_) 8 rfl (by kernel_rfl) (by kernel_rfl) (by kernel_rfl) (fun _ _ _ h => h) (Or.inl ⟨by rfl, ?_⟩) (by assumption) ?_
                rotate_left
                · (intro w hSw; (try dsimp only at hSw); go_simp; try with_reducible rfl)
                (try simp only [Act.put, List.setIfInBounds_toArray, List.set_cons_zero, List.set_cons_succ])
                refine take_first (v := ?_) 9 rfl (by kernel_rfl) (by kernel_rfl) (by kernel_rfl) (fun _ _ _ h => h) (Or.inl ⟨by rfl, ?_⟩) (by assumption) ?_
                rotate_left
                · (intro w hSw; (try dsimp only at hSw); go_simp; try with_reducible rfl)
                (try simp only [Act.put, List.setIfInBounds_toArray, List.set_cons_zero, List.set_cons_succ])
                refine take_first (v := .agg rp) 10 rfl (by kernel_rfl) (by kernel_rfl) (by kernel_rfl) (fun _ _ _ h => h) (by rw [← HRP.out]; exact yields_load_obj (by rfl) 28 (.tmp 47) rfl g _ rfl (prefC r.a r.bits) (fun W hW => HLA.out W hW) _ Try.underlying28 rfl (pref_cellsOf' r.a HOK.out.1 r.bits)) (by assumption) ?_
                (try simp only [Act.put, List.setIfInBounds_toArray, List.set_cons_zero, List.set_cons_succ])
                refine step_one 11 rfl (by kernel_rfl) (fun K hK => ?_)
                go_simp
                refine (HBC.out _).mono ?_
                rintro e wy ⟨rfl, hb⟩
                have hb2 := hHeld.trans (hb.mono hHeld.size)
                clear hb hHeld
                go_wp2_with fail
                refine hK.out _ _ hb2 (fun hHeld => ?_)
                clear hK K hb2
                (try simp only [Act.put, List.setIfInBounds_toArray, List.set_cons_zero, List.set_cons_succ])
                refine take_first (v := ?_) 12 rfl (by kernel_rfl) (by kernel_rfl) (by kernel_rfl) (fun _ _ _ h => h) (Or.inl ⟨by rfl, ?_⟩) (by assumption) ?_
                rotate_left
                · (intro w hSw; (try dsimp only at hSw); go_simp; try with_reducible rfl)
                (try simp only [Act.put, List.setIfInBounds_toArray, List.set_cons_zero, List.set_cons_succ])
                refine take_first (v := ?_) 13 rfl (by kernel_rfl) (by kernel_rfl) (by kernel_rfl) (fun _ _ _ h => h) (Or.inl ⟨by rfl, ?_⟩) (by assumption) ?_
                rotate_left
                · (intro w hSw; (try dsimp only at hSw); go_simp; try with_reducible rfl)
                (try simp only [Act.put, List.setIfInBounds_toArray, List.set_cons_zero, List.set_cons_succ])
                refine wpAnyH_done (by kernel_rfl) ?_ _
                have HWB := Lib.hid hHeld
                clear hHeld
                go_wp2_with fail
                go_roundw
                case rel => exact ⟨j + 1, hj1, by go_num, HWB.out⟩
                case measure => simp [intOf]; omega
              | true =>
                have HJA := Lib.hid (hst.2 rfl).symm
                clear hst
                go_upto_region 14 with fail
                refine wp_region_held_drew (S := fun W' => Below w3.heap.size w3 W') (by kernel_rfl) (HW.out.drew) (fun hHeld => ?_)
                refine take_first (v := ?_) 0 rfl (by kernel_rfl) (by kernel_rfl) (by kernel_rfl) (fun _ _ _ h => h) (Or.inl ⟨by rfl, ?_⟩) (by assumption) ?_
                rotate_left
                · (intro w hSw; (try dsimp only at hSw); go_simp; try with_reducible rfl)
                (try simp only [Act.put, List.setIfInBounds_toArray, List.set_cons_zero, List.set_cons_succ])
                refine take_first (v := ?_) 1 rfl (by kernel_rfl) (by kernel_rfl) (by kernel_rfl) (fun _ _ _ h => h) (Or.inl ⟨by rfl, ?_⟩) (by assumption) ?_
                rotate_left
                · (intro w hSw; (try dsimp only at hSw); go_simp; try with_reducible rfl)
                (try simp only [Act.put, List.setIfInBounds_toArray, List.set_cons_zero, List.set_cons_succ])
                refine take_first (v := ?_) 2 rfl (by kernel_rfl) (by kernel_rfl) (by kernel_rfl) (fun _ _ _ h => h) (Or.inl ⟨by rfl, ?_⟩) (by assumption) ?_
                rotate_left
                · (intro w hSw; (try dsimp only at hSw); go_simp; try with_reducible rfl)
                (try simp only [Act.put, List.setIfInBounds_toArray, List.set_cons_zero, List.set_cons_succ])
                refine take_first (v := ?_) 3 rfl (by kernel_rfl) (by kernel_rfl) (by kernel_rfl) (fun _ _ _ h => h) (Or.inl ⟨by rfl, ?_⟩) (by assumption) ?_
                rotate_left
                · (intro w hSw; (try dsimp only at hSw); go_simp; try with_reducible rfl)
                (try simp only [Act.put, List.setIfInBounds_toArray, List.set_cons_zero, List.set_cons_succ])
                refine take_first (v := ?_) 4 rfl (by kernel_rfl) (by kernel_rfl) (by kernel_rfl) (fun _ _ _ h => h) (Or.inl ⟨by rfl, ?_⟩) (by assumption) ?_
                rotate_left
                · (intro w hSw; (try dsimp only at hSw); go_simp; try with_reducible rfl)
                (try simp only [Act.put, List.setIfInBounds_toArray, List.set_cons_zero, List.set_cons_succ])
                refine take_first (v := .agg pp) 5 rfl (by kernel_rfl) (by kernel_rfl) (by kernel_rfl) (fun _ _ _ h => h) (by rw [← HPP.out]; exact yields_load_obj (by rfl) 28 (.tmp 4) rfl w.heap.size 0 rfl (prefC a bits) (fun W hW => (HX3.out.2.1.all.mono hW HX3.out.2.1.lt)) _ Try.underlying28 rfl (pref_cellsOf' a HOA.out bits)) (by assumption) ?_
                (try simp only [Act.put, List.setIfInBounds_toArray, List.set_cons_zero, List.set_cons_succ])
                refine take_first (v := ?_) 6 rfl (by kernel_rfl) (by kernel_rfl) (by kernel_rfl) (fun _ _ _ h => h) (Or.inl ⟨by rfl, ?_⟩) (by assumption) ?_
                rotate_left
                · (intro w hSw; (try dsimp only at hSw); go_simp; try with_reducible rfl)
                (try simp only [Act.put, List.setIfInBounds_toArray, List.set_cons_zero, List.set_cons_succ])
                refine take_first (v := ?_) 7 rfl (by kernel_rfl) (by kernel_rfl) (by kernel_rfl) (fun _ _ _ h => h) (Or.inl ⟨by rfl, ?_⟩) (by assumption) ?_
                rotate_left
                · (intro w hSw; (try dsimp only at hSw); go_simp; try with_reducible rfl)
                (try simp only [Act.put, List.setIfInBounds_toArray, List.set_cons_zero, List.set_cons_succ])
                refine take_first (v := ?_) 8 rfl (by kernel_rfl) (by kernel_rfl) (by kernel_rfl) (fun _ _ _ h => h) (Or.inl ⟨by rfl, ?_⟩) (by assumption) ?_
                rotate_left
                · (intro w hSw; (try dsimp only at hSw); go_simp; try with_reducible rfl)
                (try simp only [Act.put, List.setIfInBounds_toArray, List.set_cons_zero, List.set_cons_succ])
                refine take_first (v := ?_) 9 rfl (by kernel_rfl) (by kernel_rfl) (by kernel_rfl) (fun _ _ _ h => h) (Or.inl ⟨by rfl, ?_⟩) (by assumption) ?_
                rotate_left
                · (intro w hSw; (try dsimp only at hSw); go_simp; try with_reducible rfl)
                (try simp only [Act.put, List.setIfInBounds_toArray, List.set_cons_zero, List.set_cons_succ])
                refine take_first (v := .agg rp) 10 rfl (by kernel_rfl) (by kernel_rfl) (by kernel_rfl) (fun _ _ _ h => h) (by rw [← HRP.out]; exact yields_load_obj (by rfl) 28 (.tmp 47) rfl g _ rfl (prefC r.a r.bits) (fun W hW => HLA.out W hW) _ Try.underlying28 rfl (pref_cellsOf' r.a HOK.out.1 r.bits)) (by assumption) ?_
                (try simp only [Act.put, List.setIfInBounds_toArray, List.set_cons_zero, List.set_cons_succ])
                refine step_one 11 rfl (by kernel_rfl) (fun K hK => ?_)
                go_simp
                refine (HBC.out _).mono ?_
                rintro e wy ⟨rfl, hb⟩
                have hb2 := hHeld.trans (hb.mono hHeld.size)
                clear hb hHeld
                go_wp2_with fail
                refine hK.out _ _ hb2 (fun hHeld => ?_)
                clear hK K hb2
                (try simp only [Act.put, List.setIfInBounds_toArray, List.set_cons_zero, List.set_cons_succ])
                refine take_first (v := ?_) 12 rfl (by kernel_rfl) (by kernel_rfl) (by kernel_rfl) (fun _ _ _ h => h) (Or.inl ⟨by rfl, ?_⟩) (by assumption) ?_
                rotate_left
                · (intro w hSw; (try dsimp only at hSw); go_simp; try with_reducible rfl)
                (try simp only [Act.put, List.setIfInBounds_toArray, List.set_cons_zero, List.set_cons_succ])
                refine take_first (v := ?_) 13 rfl (by kernel_rfl) (by kernel_rfl) (by kernel_rfl) (fun _ _ _ h => h) (Or.inl ⟨by rfl, ?_⟩) (by assumption) ?_
                rotate_left
                · (intro w hSw; (try dsimp only at hSw); go_simp; try with_reducible rfl)
                (try simp only [Act.put, List.setIfInBounds_toArray, List.set_cons_zero, List.set_cons_succ])
                refine wpAnyH_done (by kernel_rfl) ?_ _
                replace HW := Lib.hid hHeld
                clear hHeld
                generalize hA9 : (some ⟨g, off, none⟩ : Option Addr) = A9 at HX3 HA9 ⊢
                go_upto_region 16 with fail
                refine wp_region_held_drew (S := fun W' => Below w3.heap.size w3 W') (by kernel_rfl) (HW.out.drew) (fun hHeld => ?_)
                refine take_first (v := ?_) 0 rfl (by kernel_rfl) (by kernel_rfl) (by kernel_rfl) (fun _ _ _ h => h) (Or.inl ⟨by rfl, ?_⟩) (by assumption) ?_
                rotate_left
                · (intro w hSw; (try dsimp only at hSw); go_simp; try with_reducible rfl)
                (try simp only [Act.put, List.setIfInBounds_toArray, List.set_cons_zero, List.set_cons_succ])
                refine take_first (v := ?_) 1 rfl (by kernel_rfl) (by kernel_rfl) (by kernel_rfl) (fun _ _ _ h => h) (Or.inl ⟨by rfl, ?_⟩) (by assumption) ?_
                rotate_left
                · (intro w hSw; (try dsimp only at hSw); go_simp; try with_reducible rfl)
                (try simp only [Act.put, List.setIfInBounds_toArray, List.set_cons_zero, List.set_cons_succ])
                refine take_first (v := ?_) 2 rfl (by kernel_rfl) (by kernel_rfl) (by kernel_rfl) (fun _ _ _ h => h) (Or.inl ⟨by rfl, ?_⟩) (by assumption) ?_
                rotate_left
                · (intro w hSw; (try dsimp only at hSw); go_simp; try with_reducible rfl)
                (try simp only [Act.put, List.setIfInBounds_toArray, List.set_cons_zero, List.set_cons_succ])
                refine take_first (v := ?_) 3 rfl (by kernel_rfl) (by kernel_rfl) (by kernel_rfl) (fun _ _ _ h => h) (Or.inl ⟨by rfl, ?_⟩) (by assumption) ?_
                rotate_left
                · (intro w hSw; (try dsimp only at hSw); have s := routes_hm A9 n c9 j hjc w; go_simp; try with_reducible rfl)
                (try simp only [Act.put, List.setIfInBounds_toArray, List.set_cons_zero, List.set_cons_succ])
                refine take_first (v := .agg pp) 4 rfl (by kernel_rfl) (by kernel_rfl) (by kernel_rfl) (fun _ _ _ h => h) (by rw [← HPP.out]; exact yields_load_obj (by rfl) 28 (.tmp 4) rfl w.heap.size 0 rfl (prefC a bits) (fun W hW => (HX3.out.2.1.all.mono hW HX3.out.2.1.lt)) _ Try.underlying28 rfl (pref_cellsOf' a HOA.out bits)) (by assumption) ?_
                (try simp only [Act.put, List.setIfInBounds_toArray, List.set_cons_zero, List.set_cons_succ])
                refine take_first (v := .agg kk) 5 rfl (by kernel_rfl) (by kernel_rfl) (by kernel_rfl) (fun _ _ _ h => h) (by rw [← HKK.out]; exact yields_load_obj (by rfl) 30 (.tmp 5) rfl (w.heap.size + 1) 0 rfl (k.map u8v) (fun W hW => (HX3.out.2.2.all.mono hW HX3.out.2.2.lt)) _ Try.underlying30 rfl (key_cellsOf k HKL.out)) (by assumption) ?_
                (try simp only [Act.put, List.setIfInBounds_toArray, List.set_cons_zero, List.set_cons_succ])
                refine take_first (v := .agg nr) 6 rfl (by kernel_rfl) (by kernel_rfl) (by kernel_rfl) (fun _ _ _ h => h) (yields_build_obj (by rfl) 37 [(0, .tmp 58), (1, .tmp 59)] rfl nr HBT.out) (by assumption) ?_
                (try simp only [Act.put, List.setIfInBounds_toArray, List.set_cons_zero, List.set_cons_succ])
                refine take_first (v := ?_) 8 rfl (by kernel_rfl) (by kernel_rfl) (by kernel_rfl) (fun _ _ _ h => h) (Or.inl ⟨by rfl, ?_⟩) (by assumption) ?_
                rotate_left
                · (intro w hSw; (try dsimp only at hSw); go_simp; try with_reducible rfl)
                (try simp only [Act.put, List.setIfInBounds_toArray, List.set_cons_zero, List.set_cons_succ])
                refine take_first (v := ?_) 9 rfl (by kernel_rfl) (by kernel_rfl) (by kernel_rfl) (fun _ _ _ h => h) (Or.inl ⟨by rfl, ?_⟩) (by assumption) ?_
                rotate_left
                · (intro w hSw; (try dsimp only at hSw); go_simp; try with_reducible rfl)
                (try simp only [Act.put, List.setIfInBounds_toArray, List.set_cons_zero, List.set_cons_succ])
                refine take_first (v := ?_) 10 rfl (by kernel_rfl) (by kernel_rfl) (by kernel_rfl) (fun _ _ _ h => h) (Or.inl ⟨by rfl, ?_⟩) (by assumption) ?_
                rotate_left
                · (intro w hSw; (try dsimp only at hSw); have s := routes_l A9 n c9 j hjn2 w; go_simp; try with_reducible rfl)
                (try simp only [Act.put, List.setIfInBounds_toArray, List.set_cons_zero, List.set_cons_succ])
                refine step_one 7 rfl (by kernel_rfl) (fun K hK => ?_)
                refine step_buildOne rfl 23 37 (.tmp 60) rfl nr rfl 50 Try.underlying23 ik HKI.out.1 HKI.out.2.2.1 _ HKI.out.2.1 (by omega) (by omega) (by rw [← HNR.out, List.size_toArray, RouteM.cells_length HNO.out]) ?_
                have hbx := hHeld.alloc hHeld.size (.cells nr 37)
                have hown := World.ownsRow_lit (base := wy.drew.heap.size) (e := 37) (size := 50) wy.drew nr 1 (Nat.le_refl _) (by unfold maxLen; omega) (by rw [← HNR.out, List.size_toArray, RouteM.cells_length HNO.out])
                have hgx : w3.heap.size ≤ wy.drew.heap.size := hHeld.size
                have hqs : wy.drew.heap.size ≤ (wy.drew.alloc (.cells nr 37)).heap.size := by simp
                generalize wy.drew.alloc (.cells nr 37) = wx at hbx hown hqs ⊢
                generalize wy.drew.heap.size = gx at hown hqs hgx ⊢
                clear hHeld
                refine hK.out _ _ hbx (fun hHeld => ?_)
                clear hK K hbx
                (try simp only [Act.put, List.setIfInBounds_toArray, List.set_cons_zero, List.set_cons_succ])
                refine step_one 11 rfl (by kernel_rfl) (fun K hK => ?_)
                refine step_append_rows _ rfl (.tmp 61) (.tmp 64) 23 rfl gx 37 ik _ 50 64 Try.underlying23 HKI.out.1 HKI.out.2.1 HKI.out.2.2.1 HKI.out.2.2.2 (by rfl) (by omega) _ 1 nr.toList rfl hown w3.heap.size (addrK A9 j c9 50) (n - j) (c9 - j) (rtsV (l.drop j)) rfl (by rw [← rtsV_drop]; exact (HX3.out.1.1.below hHeld).behind j c9 hjn2 hnc9) (rtsV_one _) (by unfold maxLen; omega) (by omega) hqs ?_
                intro v7 w7 ho7 hg7 _
                have hb7 : Below w3.heap.size w3 w7 := hHeld.grown hg7 hHeld.size (fun q hq => by have := (hown.lt q hq).1; omega)
                clear hg7 hown hHeld hqs
                refine hK.out _ _ hb7 (fun hHeld => ?_)
                clear hK K hb7
                (try simp only [Act.put, List.setIfInBounds_toArray, List.set_cons_zero, List.set_cons_succ])
                obtain ⟨A7, c7, rfl⟩ : ∃ A c, v7 = .slice A (1 + (n - j)) c := by
                  rcases ho7.2 with ⟨_, h0⟩ | ⟨g, cap, cur, h, _⟩
                  · omega
                  · exact ⟨_, _, h⟩
                have hrd7 := RtRd.of_own (l := ⟨a, bits, k⟩ :: l.drop j) (by rw [List.length_cons, List.length_drop, HX3.out.1.len]; omega) (fun q hq => by
                  rcases List.mem_cons.1 hq with rfl | hq
                  · exact HNO.out
                  · exact HX3.out.1.2 q (List.mem_of_mem_drop hq)) (show w7.ownsRow gx 37 50 (.slice A7 (1 + (n - j)) c7) (1 + (n - j)) (rtsV (⟨a, bits, k⟩ :: l.drop j)).flatten from by
                    have e : nr.toList ++ (rtsV (l.drop j)).flatten = (rtsV (⟨a, bits, k⟩ :: l.drop j)).flatten := by rw [← HNR.out]; simp [rtsV]
                    rw [← e]; exact ho7)
                clear ho7 hgx
                refine step_one 12 rfl (by kernel_rfl) (fun K hK => ?_)
                refine step_append_full _ rfl (.tmp 57) (.tmp 65) 23 rfl 37 ik _ 50 64 Try.underlying23 HKI.out.1 HKI.out.2.1 HKI.out.2.2.1 HKI.out.2.2.2 (by rfl) w3.heap.size (addrK A9 0 j 50) j j rfl (by
                  rcases HA9.out with ⟨rfl, rfl, rfl⟩ | ⟨hA, _⟩
                  · have : j = 0 := by omega
                    subst this
                    exact .inl ⟨rfl, rfl, rfl⟩
                  · refine .inr ⟨rfl, ?_⟩
                    unfold addrK
                    cases A9 with
                    | none => exact absurd rfl hA
                    | some ad => split <;> simp) (rtsV (l.take j)) (by rw [← rtsV_take]; exact addrK_zero (HX3.out.1.1.below hHeld) j hjn2) w7.heap.size A7 (1 + (n - j)) c7 rfl (by omega) (rtsV (⟨a, bits, k⟩ :: l.drop j)) hrd7.1 (by unfold maxLen; omega) (by omega) ?_
                intro v8 w8 ho8 hb8
                have hw7 : w.heap.size ≤ w7.heap.size := Nat.le_trans HX0.out.size hHeld.size
                have hb9 : Below w3.heap.size w3 w8 := hHeld.trans (hb8.mono hHeld.size)
                clear hHeld
                refine hK.out _ _ hb9 (fun hHeld => ?_)
                clear hK K hb8 hrd7
                (try simp only [Act.put, List.setIfInBounds_toArray, List.set_cons_zero, List.set_cons_succ])
                refine take_first (v := ?_) 13 rfl (by kernel_rfl) (by kernel_rfl) (by kernel_rfl) (fun _ _ _ h => h) (Or.inl ⟨by rfl, ?_⟩) (by assumption) ?_
                rotate_left
                · (intro w hSw; (try dsimp only at hSw); go_simp; try with_reducible rfl)
                (try simp only [Act.put, List.setIfInBounds_toArray, List.set_cons_zero, List.set_cons_succ])
                refine take_first (v := ?_) 14 rfl (by kernel_rfl) (by kernel_rfl) (by kernel_rfl) (fun _ _ _ h => h) (Or.inl ⟨by rfl, ?_⟩) (by assumption) ?_
                rotate_left
                · (intro w hSw; (try dsimp only at hSw); go_simp; try with_reducible rfl)
                (try simp only [Act.put, List.setIfInBounds_toArray, List.set_cons_zero, List.set_cons_succ])
                refine wpAnyH_done (by kernel_rfl) ?_ _
                clear hHeld
                obtain ⟨A8, c8, rfl⟩ : ∃ A c, v8 = .slice A (j + (1 + (n - j))) c := by
                  rcases ho8.2 with ⟨_, h0⟩ | ⟨g, cap, cur, h, _⟩
                  · omega
                  · exact ⟨_, _, h⟩
                have hrd8 := RtRd.of_own (l := l.take j ++ ⟨a, bits, k⟩ :: l.drop j) (by rw [List.length_append, List.length_cons, List.length_take, List.length_drop, HX3.out.1.len]; omega) (fun q hq => by
                  rcases List.mem_append.1 hq with hq | hq
                  · exact HX3.out.1.2 q (List.mem_of_mem_take hq)
                  · rcases List.mem_cons.1 hq with rfl | hq
                    · exact HNO.out
                    · exact HX3.out.1.2 q (List.mem_of_mem_drop hq)) (show w8.ownsRow w7.heap.size 37 50 (.slice A8 (j + (1 + (n - j))) c8) (j + (1 + (n - j))) (rtsV (l.take j ++ ⟨a, bits, k⟩ :: l.drop j)).flatten from by rw [← rtsV_append]; exact ho8)
                have hlen : (l.take j ++ (⟨a, bits, k⟩ : RouteM) :: l.drop j).length = j + (1 + (n - j)) := hrd8.len
                have hlow : ∀ ad, A8 = some ad → w.heap.size ≤ ad.block := fun ad h => by subst h; exact Nat.le_trans hw7 (ho8.lt ad.block rfl).1
                have hcap : j + (1 + (n - j)) ≤ c8 ∧ c8 ≤ maxLen := by
                  rcases ho8.2 with ⟨_, h0⟩ | ⟨g, cap, cur, h, _, _, h1, h2, _⟩
                  · omega
                  · injection h with _ _ h
                    subst h
                    exact ⟨h1, h2⟩
                have HF := Lib.hid (And.intro hrd8 (And.intro hlow (And.intro hcap (HX0.out.trans (hb9.mono HX0.out.size)))))
                have HV := Lib.hid (HINS.out _ HJA.out)
                clear hrd8 hb9 ho8 hlow hw7 hcap
                go_wp2_with fail
                go_ret2
                rw [HV.out, hlen]
                first | exact ⟨_, _, rfl, HF.out.1, HF.out.2⟩ | exact ⟨_, ⟨_, rfl⟩, HF.out.1, HF.out.2⟩
            · have hja : j = aheadM a bits l := by omega
              have HJA := Lib.hid hja
              clear hja
              have d1 : decide ((j : Int) < (n : Int)) = false := by simp; omega
              go_upto_region 14 with fail
              refine wp_region_held_drew (S := fun W' => Below w3.heap.size w3 W') (by kernel_rfl) (HW.out.drew) (fun hHeld => ?_)
              refine take_first (v := ?_) 0 rfl (by kernel_rfl) (by kernel_rfl) (by kernel_rfl) (fun _ _ _ h => h) (Or.inl ⟨by rfl, ?_⟩) (by assumption) ?_
              rotate_left
              · (intro w hSw; (try dsimp only at hSw); go_simp; try with_reducible rfl)
              (try simp only [Act.put, List.setIfInBounds_toArray, List.set_cons_zero, List.set_cons_succ])
              refine take_first (v := ?_) 1 rfl (by kernel_rfl) (by kernel_rfl) (by kernel_rfl) (fun _ _ _ h => h) (Or.inl ⟨by rfl, ?_⟩) (by assumption) ?_
              rotate_left
              · (intro w hSw; (try dsimp only at hSw); go_simp; try with_reducible rfl)
              (try simp only [Act.put, List.setIfInBounds_toArray, List.set_cons_zero, List.set_cons_succ])
              refine take_first (v := ?_) 2 rfl (by kernel_rfl) (by kernel_rfl) (by kernel_rfl) (fun _ _ _ h => h) (Or.inl ⟨by rfl, ?_⟩) (by assumption) ?_
              rotate_left
              · (intro w hSw; (try dsimp only at hSw); go_simp; try with_reducible rfl)
              (try simp only [Act.put, List.setIfInBounds_toArray, List.set_cons_zero, List.set_cons_succ])
              refine take_first (v := ?_) 3 rfl (by kernel_rfl) (by kernel_rfl) (by kernel_rfl) (fun _ _ _ h => h) (Or.inl ⟨by rfl, ?_⟩) (by assumption) ?_
              rotate_left
              · (intro w hSw; (try dsimp only at hSw); go_simp; try with_reducible rfl)
              (try simp only [Act.put, List.setIfInBounds_toArray, List.set_cons_zero, List.set_cons_succ])
              refine take_first (v := ?_) 4 rfl (by kernel_rfl) (by kernel_rfl) (by kernel_rfl) (fun _ _ _ h => h) (Or.inl ⟨by rfl, ?_⟩) (by assumption) ?_
              rotate_left
              · (intro w hSw; (try dsimp only at hSw); go_simp; try with_reducible rfl)
              (try simp only [Act.put, List.setIfInBounds_toArray, List.set_cons_zero, List.set_cons_succ])
              refine take_first (v := undef) 5 rfl (by kernel_rfl) (by kernel_rfl) (by kernel_rfl) (fun _ _ _ h => h) (Or.inr ⟨by rfl, rfl⟩) (by assumption) ?_
              (try simp only [Act.put, List.setIfInBounds_toArray, List.set_cons_zero, List.set_cons_succ])
              refine take_first (v := undef) 6 rfl (by kernel_rfl) (by kernel_rfl) (by kernel_rfl) (fun _ _ _ h => h) (Or.inr ⟨by rfl, rfl⟩) (by assumption) ?_
              (try simp only [Act.put, List.setIfInBounds_toArray, List.set_cons_zero, List.set_cons_succ])
              refine take_first (v := undef) 7 rfl (by kernel_rfl) (by kernel_rfl) (by kernel_rfl) (fun _ _ _ h => h) (Or.inr ⟨by rfl, rfl⟩) (by assumption) ?_
              (try simp only [Act.put, List.setIfInBounds_toArray, List.set_cons_zero, List.set_cons_succ])
              refine take_first (v := undef) 8 rfl (by kernel_rfl) (by kernel_rfl) (by kernel_rfl) (fun _ _ _ h => h) (Or.inr ⟨by rfl, rfl⟩) (by assumption) ?_
              (try simp only [Act.put, List.setIfInBounds_toArray, List.set_cons_zero, List.set_cons_succ])
              refine take_first (v := undef) 9 rfl (by kernel_rfl) (by kernel_rfl) (by kernel_rfl) (fun _ _ _ h => h) (Or.inr ⟨by rfl, rfl⟩) (by assumption) ?_
              (try simp only [Act.put, List.setIfInBounds_toArray, List.set_cons_zero, List.set_cons_succ])
              refine take_first (v := undef) 10 rfl (by kernel_rfl) (by kernel_rfl) (by kernel_rfl) (fun _ _ _ h => h) (Or.inr ⟨by rfl, rfl⟩) (by assumption) ?_
              (try simp only [Act.put, List.setIfInBounds_toArray, List.set_cons_zero, List.set_cons_succ])
              refine take_first (v := undef) 11 rfl (by kernel_rfl) (by kernel_rfl) (by kernel_rfl) (fun _ _ _ h => h) (Or.inr ⟨by rfl, rfl⟩) (by assumption) ?_
              (try simp only [Act.put, List.setIfInBounds_toArray, List.set_cons_zero, List.set_cons_succ])
              refine take_first (v := undef) 12 rfl (by kernel_rfl) (by kernel_rfl) (by kernel_rfl) (fun _ _ _ h => h) (Or.inr ⟨by rfl, rfl⟩) (by assumption) ?_
              (try simp only [Act.put, List.setIfInBounds_toArray, List.set_cons_zero, List.set_cons_succ])
              refine take_first (v := ?_) 13 rfl (by kernel_rfl) (by kernel_rfl) (by kernel_rfl) (fun _ _ _ h => h) (Or.inl ⟨by rfl, ?_⟩) (by assumption) ?_
              rotate_left
              · (intro w hSw; (try dsimp only at hSw); go_simp; try with_reducible rfl)
              (try simp only [Act.put, List.setIfInBounds_toArray, List.set_cons_zero, List.set_cons_succ])
              refine wpAnyH_done (by kernel_rfl) ?_ _
              replace HW := Lib.hid hHeld
              clear hHeld d1
              go_upto_region 16 with fail
              refine wp_region_held_drew (S := fun W' => Below w3.heap.size w3 W') (by kernel_rfl) (HW.out.drew) (fun hHeld => ?_)
              refine take_first (v := ?_) 0 rfl (by kernel_rfl) (by kernel_rfl) (by kernel_rfl) (fun _ _ _ h => h) (Or.inl ⟨by rfl, ?_⟩) (by assumption) ?_
              rotate_left
              · (intro w hSw; (try dsimp only at hSw); go_simp; try with_reducible rfl)
              (try simp only [Act.put, List.setIfInBounds_toArray, List.set_cons_zero, List.set_cons_succ])
              refine take_first (v := ?_) 1 rfl (by kernel_rfl) (by kernel_rfl) (by kernel_rfl) (fun _ _ _ h => h) (Or.inl ⟨by rfl, ?_⟩) (by assumption) ?_
              rotate_left
              · (intro w hSw; (try dsimp only at hSw); go_simp; try with_reducible rfl)
              (try simp only [Act.put, List.setIfInBounds_toArray, List.set_cons_zero, List.set_cons_succ])
              refine take_first (v := ?_) 2 rfl (by kernel_rfl) (by kernel_rfl) (by kernel_rfl) (fun _ _ _ h => h) (Or.inl ⟨by rfl, ?_⟩) (by assumption) ?_
              rotate_left
              · (intro w hSw; (try dsimp only at hSw); go_simp; try with_reducible rfl)
              (try simp only [Act.put, List.setIfInBounds_toArray, List.set_cons_zero, List.set_cons_succ])
              refine take_first (v := ?_) 3 rfl (by kernel_rfl) (by kernel_rfl) (by kernel_rfl) (fun _ _ _ h => h) (Or.inl ⟨by rfl, ?_⟩) (by assumption) ?_
              rotate_left
              · (intro w hSw; (try dsimp only at hSw); have s := routes_hm A9 n c9 j hjc w; go_simp; try with_reducible rfl)
              (try simp only [Act.put, List.setIfInBounds_toArray, List.set_cons_zero, List.set_cons_succ])
              refine take_first (v := .agg pp) 4 rfl (by kernel_rfl) (by kernel_rfl) (by kernel_rfl) (fun _ _ _ h => h) (by rw [← HPP.out]; exact yields_load_obj (by rfl) 28 (.tmp 4) rfl w.heap.size 0 rfl (prefC a bits) (fun W hW => (HX3.out.2.1.all.mono hW HX3.out.2.1.lt)) _ Try.underlying28 rfl (pref_cellsOf' a HOA.out bits)) (by assumption) ?_
              (try simp only [Act.put, List.setIfInBounds_toArray, List.set_cons_zero, List.set_cons_succ])
              refine take_first (v := .agg kk) 5 rfl (by kernel_rfl) (by kernel_rfl) (by kernel_rfl) (fun _ _ _ h => h) (by rw [← HKK.out]; exact yields_load_obj (by rfl) 30 (.tmp 5) rfl (w.heap.size + 1) 0 rfl (k.map u8v) (fun W hW => (HX3.out.2.2.all.mono hW HX3.out.2.2.lt)) _ Try.underlying30 rfl (key_cellsOf k HKL.out)) (by assumption) ?_
              (try simp only [Act.put, List.setIfInBounds_toArray, List.set_cons_zero, List.set_cons_succ])
              refine take_first (v := .agg nr) 6 rfl (by kernel_rfl) (by kernel_rfl) (by kernel_rfl) (fun _ _ _ h => h) (yields_build_obj (by rfl) 37 [(0, .tmp 58), (1, .tmp 59)] rfl nr HBT.out) (by assumption) ?_
              (try simp only [Act.put, List.setIfInBounds_toArray, List.set_cons_zero, List.set_cons_succ])
              refine take_first (v := ?_) 8 rfl (by kernel_rfl) (by kernel_rfl) (by kernel_rfl) (fun _ _ _ h => h) (Or.inl ⟨by rfl, ?_⟩) (by assumption) ?_
              rotate_left
              · (intro w hSw; (try dsimp only at hSw); go_simp; try with_reducible rfl)
              (try simp only [Act.put, List.setIfInBounds_toArray, List.set_cons_zero, List.set_cons_succ])
              refine take_first (v := ?_) 9 rfl (by kernel_rfl) (by kernel_rfl) (by kernel_rfl) (fun _ _ _ h => h) (Or.inl ⟨by rfl, ?_⟩) (by assumption) ?_
              rotate_left
              · (intro w hSw; (try dsimp only at hSw); go_simp; try with_reducible rfl)
              (try simp only [Act.put, List.setIfInBounds_toArray, List.set_cons_zero, List.set_cons_succ])
              refine take_first (v := ?_) 10 rfl (by kernel_rfl) (by kernel_rfl) (by kernel_rfl) (fun _ _ _ h => h) (Or.inl ⟨by rfl, ?_⟩) (by assumption) ?_
              rotate_left
              · (intro w hSw; (try dsimp only at hSw); have s := routes_l A9 n c9 j hjn2 w; go_simp; try with_reducible rfl)
              (try simp only [Act.put, List.setIfInBounds_toArray, List.set_cons_zero, List.set_cons_succ])
              refine step_one 7 rfl (by kernel_rfl) (fun K hK => ?_)
              refine step_buildOne rfl 23 37 (.tmp 60) rfl nr rfl 50 Try.underlying23 ik HKI.out.1 HKI.out.2.2.1 _ HKI.out.2.1 (by omega) (by omega) (by rw [← HNR.out, List.size_toArray, RouteM.cells_length HNO.out]) ?_
              have hbx := hHeld.alloc hHeld.size (.cells nr 37)
              have hown := World.ownsRow_lit (base := wr.drew.drew.heap.size) (e := 37) (size := 50) wr.drew.drew nr 1 (Nat.le_refl _) (by unfold maxLen; omega) (by rw [← HNR.out, List.size_toArray, RouteM.cells_length HNO.out])
              have hgx : w3.heap.size ≤ wr.drew.drew.heap.size := hHeld.size
              have hqs : wr.drew.drew.heap.size ≤ (wr.drew.drew.alloc (.cells nr 37)).heap.size := by simp
              generalize wr.drew.drew.alloc (.cells nr 37) = wx at hbx hown hqs ⊢
              generalize wr.drew.drew.heap.size = gx at hown hqs hgx ⊢
              clear hHeld
              refine hK.out _ _ hbx (fun hHeld => ?_)
              clear hK K hbx
              (try simp only [Act.put, List.setIfInBounds_toArray, List.set_cons_zero, List.set_cons_succ])
              refine step_one 11 rfl (by kernel_rfl) (fun K hK => ?_)
              refine step_append_rows _ rfl (.tmp 61) (.tmp 64) 23 rfl gx 37 ik _ 50 64 Try.underlying23 HKI.out.1 HKI.out.2.1 HKI.out.2.2.1 HKI.out.2.2.2 (by rfl) (by omega) _ 1 nr.toList rfl hown w3.heap.size (addrK A9 j c9 50) (n - j) (c9 - j) (rtsV (l.drop j)) rfl (by rw [← rtsV_drop]; exact (HX3.out.1.1.below hHeld).behind j c9 hjn2 hnc9) (rtsV_one _) (by unfold maxLen; omega) (by omega) hqs ?_
              intro v7 w7 ho7 hg7 _
              have hb7 : Below w3.heap.size w3 w7 := hHeld.grown hg7 hHeld.size (fun q hq => by have := (hown.lt q hq).1; omega)
              clear hg7 hown hHeld hqs
              refine hK.out _ _ hb7 (fun hHeld => ?_)
              clear hK K hb7
              (try simp only [Act.put, List.setIfInBounds_toArray, List.set_cons_zero, List.set_cons_succ])
              obtain ⟨A7, c7, rfl⟩ : ∃ A c, v7 = .slice A (1 + (n - j)) c := by
                rcases ho7.2 with ⟨_, h0⟩ | ⟨g, cap, cur, h, _⟩
                · omega
                · exact ⟨_, _, h⟩
              have hrd7 := RtRd.of_own (l := ⟨a, bits, k⟩ :: l.drop j) (by rw [List.length_cons, List.length_drop, HX3.out.1.len]; omega) (fun q hq => by
                rcases List.mem_cons.1 hq with rfl | hq
                · exact HNO.out
                · exact HX3.out.1.2 q (List.mem_of_mem_drop hq)) (show w7.ownsRow gx 37 50 (.slice A7 (1 + (n - j)) c7) (1 + (n - j)) (rtsV (⟨a, bits, k⟩ :: l.drop j)).flatten from by
                  have e : nr.toList ++ (rtsV (l.drop j)).flatten = (rtsV (⟨a, bits, k⟩ :: l.drop j)).flatten := by rw [← HNR.out]; simp [rtsV]
                  rw [← e]; exact ho7)
              clear ho7 hgx
              refine step_one 12 rfl (by kernel_rfl) (fun K hK => ?_)
              refine step_append_full _ rfl (.tmp 57) (.tmp 65) 23 rfl 37 ik _ 50 64 Try.underlying23 HKI.out.1 HKI.out.2.1 HKI.out.2.2.1 HKI.out.2.2.2 (by rfl) w3.heap.size (addrK A9 0 j 50) j j rfl (by
                rcases HA9.out with ⟨rfl, rfl, rfl⟩ | ⟨hA, _⟩
                · have : j = 0 := by omega
                  subst this
                  exact .inl ⟨rfl, rfl, rfl⟩
                · refine .inr ⟨rfl, ?_⟩
                  unfold addrK
                  cases A9 with
                  | none => exact absurd rfl hA
                  | some ad => split <;> simp) (rtsV (l.take j)) (by rw [← rtsV_take]; exact addrK_zero (HX3.out.1.1.below hHeld) j hjn2) w7.heap.size A7 (1 + (n - j)) c7 rfl (by omega) (rtsV (⟨a, bits, k⟩ :: l.drop j)) hrd7.1 (by unfold maxLen; omega) (by omega) ?_
              intro v8 w8 ho8 hb8
              have hw7 : w.heap.size ≤ w7.heap.size := Nat.le_trans HX0.out.size hHeld.size
              have hb9 : Below w3.heap.size w3 w8 := hHeld.trans (hb8.mono hHeld.size)
              clear hHeld
              refine hK.out _ _ hb9 (fun hHeld => ?_)
              clear hK K hb8 hrd7
              (try simp only [Act.put, List.setIfInBounds_toArray, List.set_cons_zero, List.set_cons_succ])
              refine take_first (v := ?_) 13 rfl (by kernel_rfl) (by kernel_rfl) (by kernel_rfl) (fun _ _ _ h => h) (Or.inl ⟨by rfl, ?_⟩) (by assumption) ?_
              rotate_left
              · (intro w hSw; (try dsimp only at hSw); go_simp; try with_reducible rfl)
              (try simp only [Act.put, List.setIfInBounds_toArray, List.set_cons_zero, List.set_cons_succ])
              refine take_first (v := ?_) 14 rfl (by kernel_rfl) (by kernel_rfl) (by kernel_rfl) (fun _ _ _ h => h) (Or.inl ⟨by rfl, ?_⟩) (by assumption) ?_
              rotate_left
              · (intro w hSw; (try dsimp only at hSw); go_simp; try with_reducible rfl)
              (try simp only [Act.put, List.setIfInBounds_toArray, List.set_cons_zero, List.set_cons_succ])
              refine wpAnyH_done (by kernel_rfl) ?_ _
              clear hHeld
              obtain ⟨A8, c8, rfl⟩ : ∃ A c, v8 = .slice A (j + (1 + (n - j))) c := by
                rcases ho8.2 with ⟨_, h0⟩ | ⟨g, cap, cur, h, _⟩
                · omega
                · exact ⟨_, _, h⟩
              have hrd8 := RtRd.of_own (l := l.take j ++ ⟨a, bits, k⟩ :: l.drop j) (by rw [List.length_append, List.length_cons, List.length_take, List.length_drop, HX3.out.1.len]; omega) (fun q hq => by
                rcases List.mem_append.1 hq with hq | hq
                · exact HX3.out.1.2 q (List.mem_of_mem_take hq)
                · rcases List.mem_cons.1 hq with rfl | hq
                  · exact HNO.out
                  · exact HX3.out.1.2 q (List.mem_of_mem_drop hq)) (show w8.ownsRow w7.heap.size 37 50 (.slice A8 (j + (1 + (n - j))) c8) (j + (1 + (n - j))) (rtsV (l.take j ++ ⟨a, bits, k⟩ :: l.drop j)).flatten from by rw [← rtsV_append]; exact ho8)
              have hlen : (l.take j ++ (⟨a, bits, k⟩ : RouteM) :: l.drop j).length = j + (1 + (n - j)) := hrd8.len
              have hlow : ∀ ad, A8 = some ad → w.heap.size ≤ ad.block := fun ad h => by subst h; exact Nat.le_trans hw7 (ho8.lt ad.block rfl).1
              have hcap : j + (1 + (n - j)) ≤ c8 ∧ c8 ≤ maxLen := by
                rcases ho8.2 with ⟨_, h0⟩ | ⟨g, cap, cur, h, _, _, h1, h2, _⟩
                · omega
                · injection h with _ _ h
                  subst h
                  exact ⟨h1, h2⟩
              have HF := Lib.hid (And.intro hrd8 (And.intro hlow (And.intro hcap (HX0.out.trans (hb9.mono HX0.out.size)))))
              have HV := Lib.hid (HINS.out _ HJA.out)
              clear hrd8 hb9 ho8 hlow hw7 hcap
              go_wp2_with fail
              go_ret2
              rw [HV.out, hlen]
              first | exact ⟨_, _, rfl, HF.out.1, HF.out.2⟩ | exact ⟨_, ⟨_, rfl⟩, HF.out.1, HF.out.2⟩
end Go.Proofs.Ytnblofbbbkjhpaa
namespace Go.Proofs.Ytnblofbbbkjhpaa
open Go.RowKit

theorem row_blk {w : World} {base e g n : Nat} {xs : List Value} (h : w.ownsRow base e 1 (.slice (some ⟨g, 0, none⟩) n n) n xs) : Blk w g e xs := by
  rcases h.2 with ⟨h0, _⟩ | ⟨g', cap, cur, hv, _, hg, _, _, hcs, ht⟩
  · cases h0
  · simp only [Value.slice.injEq, Option.some.injEq, Addr.mk.injEq, and_true, true_and] at hv
    obtain ⟨rfl, rfl⟩ := hv
    have : cur.toList = xs := by
      rw [← ht, List.take_of_length_le (by simp; omega)]
    unfold Blk
    rw [hg, ← this]

theorem Rd.kept {w w' : World} {B g n : Nat} {A : Option Addr} {l : List UInt8} (h : Rd w B A n l) (hB : B ≤ g) (hg : g < w.heap.size) (hb : w.grownBy w' (some g)) : Rd w' B A n l :=
  h.keep fun q hq => World.cell?_of_block (hb.block q.block (by omega) (fun e => by injection e with e; omega))
theorem Rd.below2 {w w' : World} {B n : Nat} {A : Option Addr} {l : List UInt8} (h : Rd w B A n l) (hB : B ≤ w.heap.size) (hb : Below w.heap.size w w') : Rd w' B A n l := h.below (hb.mono hB)
end Go.Proofs.Ytnblofbbbkjhpaa
namespace Go.Proofs.Ytnblofbbbkjhpaa
open Go.RowKit

theorem grownD {a w : World} {row : Option Nat} (h : a.grownBy w row) : a.grownBy w.drew row := ⟨h.os, h.tape, h.output, h.size, h.block⟩
theorem grownB {a w w' : World} {row : Option Nat} (h : a.grownBy w row) (hb : Below w.heap.size w w') : a.grownBy w' row :=
  grownBy_trans h ⟨hb.os, hb.tape, hb.output, hb.size, fun k hk _ => hb.block k hk⟩
theorem grown_refl (w : World) (k : Option Nat) : w.grownBy w k := ⟨rfl, rfl, rfl, Nat.le_refl _, fun _ _ _ => rfl⟩
/-- a change above w is none below it -/
theorem grownA {w W W' : World} {g : Nat} {row : Option Nat} (h : w.grownBy W (some g)) (hb : W.grownBy W' row) (hr : ∀ k, row = some k → w.heap.size ≤ k) : w.grownBy W' (some g) :=
  ⟨hb.os.trans h.os, hb.tape.trans h.tape, hb.output.trans h.output, Nat.le_trans h.size hb.size, fun k hk hne => (hb.block k (Nat.lt_of_lt_of_le hk h.size) (fun e => absurd (hr k e.symm) (by omega))).trans (h.block k hk hne)⟩
/-- the entries, and that of what was there ahead of w0 only the block g has changed -/
def MemG (w0 : World) (g : Nat) (E : List Ent) (W : World) : Prop := MemE w0.heap.size E W.heap.size W ∧ w0.grownBy W (some g)
section
variable {w0 W W' : World} {g : Nat} {E : List Ent}
theorem MemG.nil (w0 : World) (g : Nat) : MemG w0 g [] w0 := ⟨Nat.le_refl _, grown_refl _ _⟩
theorem MemG.get (h : MemG w0 g E W) (i : Nat) {e : Ent} (he : E[i]? = some e) : e.P W := h.1.get i e he
theorem MemG.blk (h : MemG w0 g E W) (i : Nat) {b : Nat} {t : TypeId} {cs : List Value} (he : E[i]? = some (blkE b t cs)) : Blk W b t cs := h.1.get i _ he
theorem MemG.rd (h : MemG w0 g E W) (i : Nat) {lo hi : Nat} {A : Option Addr} {n : Nat} {l : List UInt8} (he : E[i]? = some (rdE lo hi A n l)) : Rd W W.heap.size A n l :=
  (RdIn.rd (h.1.get i _ he)).mono (MemE.put.MemE.under h.1 i _ he)
theorem MemG.below (h : MemG w0 g E W) (hb : Below W.heap.size W W') : MemG w0 g E W' := ⟨h.1.keep hb.size (fun k _ hk => hb.block k hk), grownB h.2 hb⟩
theorem MemG.drew (h : MemG w0 g E W) : MemG w0 g E W.drew := h.below ((Below.refl _ _).drew)
/-- the block g changes -/
theorem MemG.next (h : MemG w0 g E W) (hg : g < w0.heap.size) (hb : W.grownBy W' (some g)) : MemG w0 g E W' :=
  ⟨h.1.keep hb.size (fun k h1 hk => hb.block k hk (fun e => by injection e with e; omega)), grownBy_trans h.2 hb⟩
theorem MemG.alloc (h : MemG w0 g E W) {b : Nat} (hb0 : b = W.heap.size) (t : TypeId) (arr : Array Value) (cs : List Value) (ha : arr = cs.toArray) : MemG w0 g (blkE b t cs :: E) (W.alloc (.cells arr t)) := by
  subst hb0 ha
  have hb : Below W.heap.size W (W.alloc (.cells cs.toArray t)) := (Below.refl _ _).alloc (Nat.le_refl _) _
  refine ⟨⟨?_, Nat.le_succ _, Blk.new W t cs, h.1.keep (Nat.le_refl _) (fun k _ hk => hb.block k hk)⟩, grownB h.2 hb⟩
  show W.heap.size + 1 ≤ _
  simp
theorem MemG.call (h : MemG w0 g E W) (hb : Below W.heap.size W W') (e : Ent) (hl : e.lo = W.heap.size) (hh : e.hi = W'.heap.size) (hp : e.P W') : MemG w0 g (e :: E) W' :=
  ⟨⟨by rw [hh]; exact Nat.le_refl _, by rw [hl, hh]; exact hb.size, hp, by rw [hl]; exact h.1.keep (Nat.le_refl _) (fun k _ hk => hb.block k hk)⟩, grownB h.2 hb⟩
theorem MemG.put (h : MemG w0 g E W) (i : Nat) {b : Nat} {t : TypeId} {cs : List Value} (he : E[i]? = some (blkE b t cs)) (cs' : List Value) (hg : W.grownBy W' (some b)) (hb : Blk W' b t cs') : MemG w0 g (E.set i (blkE b t cs')) W' := by
  have hlow : w0.heap.size ≤ b := MemE.low h.1 i _ he
  refine ⟨(MemE.put h.1 i _ (blkE b t cs') he rfl rfl (fun k hk hne => hg.block k hk (fun e => hne ?_)) hb).keep hg.size (fun _ _ _ => rfl), grownA h.2 hg (fun k hk => by injection hk with hk; omega)⟩
  injection e with e
  subst e
  exact ⟨Nat.le_refl _, Nat.lt_succ_self _⟩
theorem MemG.setCell (h : MemG w0 g E W) (i : Nat) {b : Nat} {t : TypeId} {cs : List Value} (he : E[i]? = some (blkE b t cs)) (j : Nat) (u : Value) : MemG w0 g (E.set i (blkE b t (cs.set j u))) (W.setCell ⟨b, j, none⟩ u) :=
  h.put i he _ ⟨rfl, rfl, rfl, by simp [World.setCell], fun k _ hne => Below.heap_setCell _ _ _ _ (fun e => hne (by rw [e]))⟩ ((h.blk i he).set_ j u)
end
end Go.Proofs.Ytnblofbbbkjhpaa
namespace Go.Proofs.Ytnblofbbbkjhpaa
open Go.RowKit

/-- the list of choices that lies at A, p of them taken -/
def codesC (A : Option Addr) (n c p : Nat) : List Value := [.slice A n c, .int .i64 (p : Int)]
def nextV (l : List UInt8) (p m : Nat) : Nat := if p < l.length ∧ 1 ≤ m then (l.getD p 0).toNat % m else 0
def nextP (l : List UInt8) (p m : Nat) : Nat := if p < l.length ∧ 1 ≤ m then p + 1 else p
theorem nextP_le (l : List UInt8) (p m : Nat) (h : p ≤ l.length) : nextP l p m ≤ l.length := by unfold nextP; split <;> omega
theorem nextV_lt (l : List UInt8) (p m : Nat) (h : 1 ≤ m) : nextV l p m < m := by unfold nextV; split; exact Nat.mod_lt _ h; omega
set_option maxRecDepth 100000 in
theorem caseLeft_any (g : Nat) (A : Option Addr) (n c : Nat) (p : Nat) (w : World) (hg : Blk w g 64 (codesC A n c p)) :
    Calls Try.prog 49 #[.pointer (some ⟨g, 0, none⟩)] w fun e w' => e = .returned (.bool (decide (p < n))) ∧ Below w.heap.size w w' := by
  have HG := Lib.hid hg
  have hd : decide ((p : Int) < (n : Int)) = decide (p < n) := by simp
  obtain ⟨q, hq⟩ : ∃ q, decide (p < n) = q := ⟨_, rfl⟩
  rw [hq] at hd
  have HQ := Lib.hid hq
  clear hg hq
  go_enter Try.func49, Try.ntmps49
  have f0 := HG.out.cell 0
  have f1 := HG.out.cell 1
  rw [show (codesC A n c p)[0]? = some (.slice A n c) from rfl] at f0
  rw [show (codesC A n c p)[1]? = some (.int .i64 (p : Int)) from rfl] at f1
  go_upto_region 1 with fail
  go_region
  go_wp2
  go_ret
  exact ⟨by rw [HQ.out]; rfl, (Below.refl _ _).drew⟩
set_option maxRecDepth 100000 in
set_option maxHeartbeats 2000000 in
theorem caseNext_any (g : Nat) (A : Option Addr) (n c : Nat) (l : List UInt8) (p : Nat) (hn : n ≤ 100000) (hp : p ≤ n) (m : Nat) (hm : m ≤ 1000000) (B : Nat) (hB : B ≤ g) (w : World) (hg : Blk w g 64 (codesC A n c p)) (hr : Rd w B A n l) :
    Calls Try.prog 32 #[.pointer (some ⟨g, 0, none⟩), .int .i64 (m : Int)] w fun e w' => e = .returned (.int .i64 (nextV l p m : Int)) ∧ Blk w' g 64 (codesC A n c (nextP l p m)) ∧ w.grownBy w' (some g) := by
  have hl := hr.1
  have LC := caseLeft_any g A n c p w hg
  have HG := Lib.hid hg
  have HR := Lib.hid hr
  have HLC := Lib.hid LC
  clear hg hr LC
  by_cases hpn : p < n
  · by_cases hm1 : 1 ≤ m
    · have HV := Lib.hid (show nextV l p m = (l.getD p 0).toNat % m ∧ nextP l p m = p + 1 from ⟨if_pos ⟨by omega, hm1⟩, if_pos ⟨by omega, hm1⟩⟩)
      obtain ⟨b, off, rfl, hb0, _⟩ := HR.out.at_ (by omega)
      go_enter Try.func32, Try.ntmps32
      go_upto_region 1 with fail
      go_wp2_with fail
      refine HLC.out.mono ?_
      rintro e w1 ⟨rfl, hb⟩
      rw [decide_eq_true hpn]
      have HG1 := Lib.hid (HG.out.below hb HG.out.lt)
      have HR1 := Lib.hid ((HR.out.mono (Nat.le_trans hB (Nat.le_of_lt HG.out.lt))).below hb)
      have HW := Lib.hid (grownB (grown_refl w (some g)) hb)
      clear hb HLC
      have dm : decide ((m : Int) < 1) = false := by simp; omega
      have f0 := HG1.out.cell 0
      have f1 := HG1.out.cell 1
      rw [show (codesC (some ⟨b, off, none⟩) n c p)[0]? = some (.slice (some ⟨b, off, none⟩) n c) from rfl] at f0
      rw [show (codesC (some ⟨b, off, none⟩) n c p)[1]? = some (.int .i64 (p : Int)) from rfl] at f1
      have z1 := HG1.out.frozen 1
      have hw1 : IntKind.i64.wrap ((p : Int) + 1) = ((p + 1 : Nat) : Int) := by rw [IntWalk.i64_in _ (by omega)]; omega
      obtain ⟨p1, hp1⟩ : ∃ q, p + 1 = q := ⟨_, rfl⟩
      rw [hp1] at hw1
      have hs := HG1.out.set_ 1 (.int .i64 (p1 : Int))
      have HS := Lib.hid (show Blk (w1.setCell ⟨g, 1, none⟩ (.int .i64 (p1 : Int))) g 64 (codesC (some ⟨b, off, none⟩) n c p1) from hs)
      have HW2 := Lib.hid (show w.grownBy (w1.setCell ⟨g, 1, none⟩ (.int .i64 (p1 : Int))) (some g) from grown_set HW.out 1 _)
      have hfx : (w1.setCell ⟨g, 1, none⟩ (.int .i64 (p1 : Int))).cell? ⟨b, off + p, none⟩ = some (.int .u8 ((l.getD p 0).toNat : Int)) := by
        rw [World.cell?_of_block (w := w1) (Below.heap_setCell _ _ _ _ (by dsimp only; omega))]
        exact HR1.out.byt p hpn
      have HFX := Lib.hid hfx
      clear hs hfx
      go_upto_region 4 with fail
      clear f0 f1 z1 dm
      (try simp only [hw1])
      generalize w1.setCell ⟨g, 1, none⟩ (.int .i64 (p1 : Int)) = w2 at HS HW2 HFX ⊢
      clear hw1
      have f0 := HS.out.cell 0
      have f1 := HS.out.cell 1
      rw [show (codesC (some ⟨b, off, none⟩) n c p1)[0]? = some (.slice (some ⟨b, off, none⟩) n c) from rfl] at f0
      rw [show (codesC (some ⟨b, off, none⟩) n c p1)[1]? = some (.int .i64 (p1 : Int)) from rfl] at f1
      have fx := HFX.out
      generalize l.getD p 0 = x at fx HV
      have hw2 : IntKind.i64.wrap ((p1 : Int) - 1) = (p : Int) := by rw [IntWalk.i64_in _ (by omega)]; omega
      have hw3 : (p1 : Int) - 1 = (p : Int) := by omega
      have hw4 : IntKind.i64.wrap (p : Int) = (p : Int) := IntWalk.i64_in _ (by omega)
      have hx256 := x.toNat_lt
      have hw5 : IntKind.i64.wrap (x.toNat : Int) = (x.toNat : Int) := IntWalk.i64_in _ (by omega)
      have bp : (p : Int) < (n : Int) := by omega
      have hmz : ((m : Int) == 0) = false := by rw [beq_eq_false_iff_ne]; omega
      have hmz' : ¬ (m : Int) = 0 := by omega
      obtain ⟨r, hr⟩ : ∃ r, x.toNat % m = r := ⟨_, rfl⟩
      have hmod : (x.toNat : Int).tmod (m : Int) = (r : Int) := by rw [← hr, Int.tmod_eq_emod_of_nonneg (by omega), Int.natCast_emod]
      have hmod2 : (x.toNat : Int) % (m : Int) = (r : Int) := by rw [← hr, Int.natCast_emod]
      rw [hr, hp1] at HV
      have hwr : IntKind.i64.wrap (r : Int) = (r : Int) := IntWalk.i64_in _ (by rw [← hr]; have := Nat.mod_le x.toNat m; omega)
      clear hr
      go_region
      go_wp2
      go_ret
      exact ⟨by rw [HV.out.1]; rfl, by rw [HV.out.2]; exact HS.out.drew, grownD HW2.out⟩
    · have HV := Lib.hid (show nextV l p m = 0 ∧ nextP l p m = p from ⟨if_neg (by omega), if_neg (by omega)⟩)
      go_enter Try.func32, Try.ntmps32
      go_upto_region 1 with fail
      go_wp2_with fail
      refine HLC.out.mono ?_
      rintro e w1 ⟨rfl, hb⟩
      rw [decide_eq_true hpn]
      have HG1 := Lib.hid (HG.out.below hb HG.out.lt)
      have HW := Lib.hid (grownB (grown_refl w (some g)) hb)
      clear hb HLC
      have dm : decide ((m : Int) < 1) = true := by simp; omega
      go_wp2
      go_ret
      exact ⟨by rw [HV.out.1]; rfl, by rw [HV.out.2]; exact HG1.out, HW.out⟩
  · have HV := Lib.hid (show nextV l p m = 0 ∧ nextP l p m = p from ⟨if_neg (by omega), if_neg (by omega)⟩)
    go_enter Try.func32, Try.ntmps32
    go_upto_region 1 with fail
    go_wp2_with fail
    refine HLC.out.mono ?_
    rintro e w1 ⟨rfl, hb⟩
    rw [decide_eq_false hpn]
    have HG1 := Lib.hid (HG.out.below hb HG.out.lt)
    have HW := Lib.hid (grownB (grown_refl w (some g)) hb)
    clear hb HLC
    go_wp2
    go_ret
    exact ⟨by rw [HV.out.1]; rfl, by rw [HV.out.2]; exact HG1.out, HW.out⟩
end Go.Proofs.Ytnblofbbbkjhpaa
namespace Go.Proofs.Ytnblofbbbkjhpaa
open Go.RowKit

theorem codeByte_wrap (v : Nat) : IntKind.u8.wrap (v : Int) = ((UInt8.ofNat v).toNat : Int) := by
  rw [IntKind.wrap_u8, UInt8.toNat_ofNat']
  omega
def codeByte (x p1 i : Nat) : UInt8 := UInt8.ofNat (x + i * (2 * p1 + 1))
/-- k bytes of choices -/
def pickB (l : List UInt8) (p k : Nat) : List UInt8 := (List.range k).map (codeByte (nextV l p 256) (nextP l p 256))
theorem pickB_length (l : List UInt8) (p k : Nat) : (pickB l p k).length = k := by simp [pickB]
def codeJ (l : List UInt8) (p k j : Nat) : List UInt8 := (pickB l p k).take j ++ List.replicate (k - j) 0
theorem codeJ_length (l : List UInt8) (p k j : Nat) (h : j ≤ k) : (codeJ l p k j).length = k := by simp [codeJ, pickB_length]; omega
theorem codeJ_step (l : List UInt8) (p k j : Nat) (h : j < k) : (codeJ l p k j).set j (codeByte (nextV l p 256) (nextP l p 256) j) = codeJ l p k (j + 1) := by
  have hl := pickB_length l p k
  have hj : (pickB l p k)[j]'(by omega) = codeByte (nextV l p 256) (nextP l p 256) j := by simp [pickB]
  rw [codeJ, codeJ, List.set_append_right _ _ (by rw [List.length_take]; omega), List.length_take, Nat.min_eq_left (by omega), Nat.sub_self, show k - j = (k - (j + 1)) + 1 by omega, List.replicate_succ, List.set_cons_zero, List.take_succ_eq_append_getElem (by omega), hj, List.append_assoc]
  rfl
set_option maxRecDepth 100000 in
set_option maxHeartbeats 2000000 in
theorem caseBytes_any (g : Nat) (A : Option Addr) (n c : Nat) (l : List UInt8) (p : Nat) (hn : n ≤ 100000) (hp : p ≤ n) (k : Nat) (hk : k ≤ 1000) (B : Nat) (hB : B ≤ g) (w : World) (hg : Blk w g 64 (codesC A n c p)) (hr : Rd w B A n l) :
    Calls Try.prog 45 #[.pointer (some ⟨g, 0, none⟩), .int .i64 (k : Int)] w fun e w' => e = .returned (.slice (some ⟨w.heap.size, 0, none⟩) k k) ∧ Blk w' g 64 (codesC A n c (nextP l p 256)) ∧ MemG w g [blkE w.heap.size 5 ((pickB l p k).map u8v)] w' := by
  obtain ⟨i0, hi, hz0, hz1, hz2⟩ := info_parts Try.info5
  have hgl := hg.lt
  have hl := hr.1
  have HG := Lib.hid hg
  have HR := Lib.hid hr
  clear hg hr
  go_enter Try.func45, Try.ntmps45
  go_upto_region 2 with (refine wpList_make_full _ rfl (.tmp 9) (.tmp 9) 22 rfl w.heap.size 5 i0 (.int .u8 0) 1 Try.underlying22 hi hz0 hz1 .i64 .i64 k k k rfl rfl rfl rfl (by rw [hz2]; omega) (by unfold maxLen; omega) (Nat.le_refl _) ?_; intro w1 hown1 hg1)
  rw [show (Value.int IntKind.u8 0).cells = #[.int .u8 0] from rfl, toList_madeCells_one, Nat.mul_one] at hown1
  have hM1 : MemG w g [blkE w.heap.size 5 ((codeJ l p k 0).map u8v)] w1 := by
    have hb1 := row_blk hown1
    have h2 : (codeJ l p k 0).map u8v = List.replicate k (.int .u8 0) := by simp [codeJ, u8v]
    refine ⟨⟨hb1.lt, Nat.le_succ _, by rw [h2]; exact hb1, Nat.le_refl _⟩, ⟨hg1.os, hg1.tape, hg1.output, hg1.size, fun q hq _ => hg1.block q hq (by simp)⟩⟩
  have HM := Lib.hid hM1
  have HG1 := Lib.hid (HG.out.grown hg1 (by simp))
  have HR1 := Lib.hid (HR.out.below2 (by omega) (⟨hg1.os, hg1.tape, hg1.output, hg1.size, fun q hq => hg1.block q hq (by simp)⟩ : Below w.heap.size w w1))
  clear hM1 hown1 hg1
  go_wp2_with fail
  refine (caseNext_any g A n c l p hn hp 256 (by omega) B hB w1 HG1.out HR1.out).mono ?_
  rintro e w2 ⟨rfl, hG2, hgr⟩
  have hp1 := nextP_le l p 256 (by omega)
  have hxl := nextV_lt l p 256 (by omega)
  replace HM := Lib.hid (HM.out.next hgl hgr)
  have HG2 := Lib.hid hG2
  clear hG2 hgr HG1 HR1
  have HJ := Lib.hid (codeJ_step l p k)
  generalize nextV l p 256 = x at hxl HJ ⊢
  obtain ⟨p1, hp1e⟩ : ∃ q, nextP l p 256 = q := ⟨_, rfl⟩
  rw [hp1e] at hp1 HG2 HJ
  have HP1 := Lib.hid hp1e
  clear hp1e
  have f1 := HG2.out.cell 1
  rw [show (codesC A n c p1)[1]? = some (.int .i64 (p1 : Int)) from rfl] at f1
  obtain ⟨s2, hs2⟩ : ∃ q, 2 * p1 = q := ⟨_, rfl⟩
  have hw1 : IntKind.i64.wrap (2 * (p1 : Int)) = (s2 : Int) := by rw [IntWalk.i64_in _ (by omega)]; omega
  obtain ⟨s3, hs3⟩ : ∃ q, s2 + 1 = q := ⟨_, rfl⟩
  have hw2 : IntKind.i64.wrap ((s2 : Int) + 1) = (s3 : Int) := by rw [IntWalk.i64_in _ (by omega)]; omega
  have HS := Lib.hid (show 2 * p1 + 1 = s3 by omega)
  have hs3l : s3 ≤ 200001 := by omega
  clear hs2 hs3
  go_upto_region 4 with fail
  clear f1 hw1 hw2
  go_wp2_with fail
  go_loopw [21, 8] (fun z _ wr => ∃ j : Nat, j ≤ k ∧ z = .int .i64 (j : Int) ∧ Blk wr g 64 (codesC A n c p1) ∧ MemG w g [blkE w.heap.size 5 ((codeJ l p k j).map u8v)] wr) (fun z _ _ => k - (intOf z).toNat)
  case atStart => exact ⟨0, by omega, rfl, HG2.out, HM.out⟩
  case round =>
    clear HM HG2
    obtain ⟨j, hj, rfl, hgb, hM⟩ := hrel
    have HM := Lib.hid hM
    have HGB := Lib.hid hgb
    clear hM hgb
    by_cases hlt : j < k
    · have dl : decide ((j : Int) < (k : Int)) = true := by simp; omega
      have bj : (j : Int) < (k : Int) := by omega
      have hcl := codeJ_length l p k j hj
      have hlk : ((codeJ l p k j).map u8v)[j]? = some (u8v ((codeJ l p k j).getD j 0)) := by rw [List.getElem?_map, List.getD_eq_getElem?_getD, List.getElem?_eq_getElem (by omega)]; rfl
      have fx := ((HM.out.blk 0 rfl).cell j).trans hlk
      generalize u8v ((codeJ l p k j).getD j 0) = y at fx
      have zx := (HM.out.blk 0 rfl).frozen j
      obtain ⟨m1, hm1⟩ : ∃ q, j * s3 = q := ⟨_, rfl⟩
      have hmb : m1 ≤ 1000 * 200001 := by rw [← hm1]; exact Nat.mul_le_mul (by omega) hs3l
      have hm2 : (j : Int) * (s3 : Int) = (m1 : Int) := by rw [← hm1, Int.natCast_mul]
      have hw3 : IntKind.i64.wrap ((j : Int) * (s3 : Int)) = (m1 : Int) := by rw [hm2]; exact IntWalk.i64_in _ (by omega)
      obtain ⟨v, hv⟩ : ∃ q, x + m1 = q := ⟨_, rfl⟩
      have hw4 : IntKind.i64.wrap ((x : Int) + (m1 : Int)) = (v : Int) := by rw [IntWalk.i64_in _ (by omega)]; omega
      have hw5 := codeByte_wrap v
      have hst : (codeJ l p k j).set j (UInt8.ofNat v) = codeJ l p k (j + 1) := by rw [← HJ.out j hlt, codeByte, HS.out, hm1, hv]
      generalize UInt8.ofNat v = u at hw5 hst
      have HN := Lib.hid (show MemG w g [blkE w.heap.size 5 ((codeJ l p k (j + 1)).map u8v)] (wr.setCell ⟨w.heap.size, j, none⟩ (.int .u8 (u.toNat : Int))) from by have h := HM.out.setCell 0 rfl j (u8v u); rw [← List.map_set, hst] at h; exact h)
      have HGN := Lib.hid (show Blk (wr.setCell ⟨w.heap.size, j, none⟩ (.int .u8 (u.toNat : Int))) g 64 (codesC A n c p1) from HGB.out.far (by dsimp only; omega) _)
      clear hst hm1 hmb hm2 hv hcl hlk HM HGB
      go_wp2
      go_roundw
      case rel => exact ⟨j + 1, by omega, by go_num, HGN.out, HN.out⟩
      case measure => simp [intOf]; omega
    · obtain rfl : j = k := by omega
      have dl : decide ((j : Int) < (j : Int)) = false := by simp
      have he : codeJ l p j j = pickB l p j := by rw [codeJ, Nat.sub_self, List.replicate_zero, List.append_nil, List.take_of_length_le (by rw [pickB_length]; omega)]
      rw [he] at HM
      go_wp2
      go_ret
      exact ⟨rfl, by rw [HP1.out]; exact HGB.out, HM.out⟩
set_option maxRecDepth 100000 in
theorem caseNew_any (A : Option Addr) (n c m k : Nat) (hm : m ≤ 1000000) (hnc : n ≤ c) (hcm : c ≤ maxLen) (hk : min n m = k) (w : World) :
    Calls Try.prog 10 #[.slice A n c, .int .i64 (m : Int)] w fun e w' => e = .returned (.pointer (some ⟨w.heap.size, 0, none⟩)) ∧ Mem w [blkE w.heap.size 64 (codesC A k c 0)] w' := by
  have hc63 : (c : Int) ≤ 9223372036854775807 := by unfold maxLen at hcm; omega
  have HM := Lib.hid ((Mem.nil w).alloc rfl 64 #[.slice A k c, .int .i64 0] (codesC A k c 0) rfl)
  by_cases h : n ≤ m
  · obtain rfl : k = n := by omega
    have h1 : ¬ (m : Int) < (k : Int) := by omega
    have h2 : (k : Int) ≤ (m : Int) := by omega
    have h3 : (k : Int) ≤ (c : Int) := by omega
    have h4 : (if (m : Int) < (k : Int) then (m : Int) else (k : Int)) = (k : Int) := if_neg h1
    clear hk
    go_enter Try.func10, Try.ntmps10
    go_wp2
    go_ret
    exact ⟨rfl, HM.out⟩
  · obtain rfl : k = m := by omega
    have h1 : (k : Int) < (n : Int) := by omega
    have h2 : ¬ (n : Int) ≤ (k : Int) := by omega
    have h3 : (k : Int) ≤ (c : Int) := by omega
    have h4 : (if (k : Int) < (n : Int) then (k : Int) else (n : Int)) = (k : Int) := if_pos h1
    clear hk
    go_enter Try.func10, Try.ntmps10
    go_wp2
    go_ret
    exact ⟨rfl, HM.out⟩
end Go.Proofs.Ytnblofbbbkjhpaa
namespace Go.Proofs.Ytnblofbbbkjhpaa
open Go.RowKit

theorem AddrM.set_cell (a : AddrM) (q : Nat) (y : UInt8) : a.cells.set (1 + q) (u8v y) = (AddrM.mk a.six (a.ip.set q y)).cells := by
  rw [AddrM.cells, AddrM.cells, Nat.add_comm, List.set_cons_succ, ← List.map_set]
end Go.Proofs.Ytnblofbbbkjhpaa
namespace Go.Proofs.Ytnblofbbbkjhpaa
open Go.RowKit

end Go.Proofs.Ytnblofbbbkjhpaa
