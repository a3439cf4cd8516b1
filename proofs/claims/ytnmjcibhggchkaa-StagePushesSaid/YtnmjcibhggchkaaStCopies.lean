/-
  The contracts of the program's behind and copies. No statement is proved here.
-/
import Derived.Test.YtnmjcibhggchkaaStC
import Derived.Test.YtnmjcibhggchkaaBClone
import Derived.Deep.OwnRows
import Derived.RegionTactic
import Derived.Deep.DeepCutAuto
namespace Go.Proofs.Ytnmjcibhggchkaa
open Go.RowKit

set_option maxRecDepth 100000 in
set_option maxHeartbeats 8000000 in
theorem behind_any (A : Option Addr) (n c i : Nat) (hi : i ≤ n) (hc : n ≤ c) (w : World) :
    Calls Try.prog 16 #[.slice A n c, .int .i64 (i : Int)] w fun e w' => e = .returned (.slice (addrK A i n 1) (n - i) (n - i)) ∧ w' = w := by
  have hsl := fun W => pks_lhm A n c i n n hi (Nat.le_refl _) hc W
  go_enter Try.func16, Try.ntmps16
  go_wp2
  go_ret
  exact ⟨rfl, rfl⟩
set_option maxRecDepth 100000 in
set_option maxHeartbeats 8000000 in
theorem copies_any (A : Option Addr) (n c : Nat) (ps : List Part) (hn : n ≤ 100000) (w : World) (hr : PkRd w w.heap.size A n ps) (hs : ∀ p ∈ ps, p.n ≤ 100000) :
    Calls Try.prog 17 #[.slice A n c] w fun e w' => ∃ A' qs, e = .returned (.slice A' n n) ∧ PkRd w' w'.heap.size A' n qs ∧ psB qs = psB ps ∧ Below w.heap.size w w' := by
  obtain ⟨i0, hi, hz0, hz1, hz2⟩ := info_parts pksInfo
  have HR := Lib.hid hr
  have HS := Lib.hid hs
  clear hr hs
  go_enter Try.func17, Try.ntmps17
  go_upto_region 2 with (refine wpList_make_row _ rfl (.tmp 7) (.tmp 7) 22 rfl 23 i0 (.slice none 0 0) Try.underlying22 hi hz0 hz1 rfl .i64 .i64 n rfl rfl (by rw [hz2]; omega) (by omega) ?_)
  clear hi hz0 hz1 hz2
  have hblk := Blk.new w 23 (madeCells #[Value.slice none 0 0] n).toList
  rw [Array.toArray_toList] at hblk
  have hmc : (madeCells #[Value.slice none 0 0] n).toList = List.replicate n (.slice none 0 0) := toList_madeCells_one _ _
  rw [hmc] at hblk
  have HB0 := Lib.hid (show Blk (w.alloc (.cells (madeCells #[Value.slice none 0 0] n) 23)) w.heap.size 23 (([] : List Part).map pkV ++ List.replicate n (.slice none 0 0)) from hblk)
  have HL0 := Lib.hid ((Below.refl w.heap.size w).alloc (Nat.le_refl _) (.cells (madeCells #[Value.slice none 0 0] n) 23))
  clear hblk hmc
  generalize w.alloc (.cells (madeCells #[Value.slice none 0 0] n) 23) = w1 at HB0 HL0 ⊢
  obtain ⟨g, hg⟩ : ∃ z, w.heap.size = z := ⟨_, rfl⟩
  rw [hg] at HB0 ⊢
  have HG := Lib.hid hg
  clear hg
  go_wp2_with fail
  go_loopw [11] (fun i wr => ∃ (j : Nat) (qs : List Part), j ≤ n ∧ i = .int .i64 (j : Int) ∧ qs.length = j ∧ psB qs = psB (ps.take j) ∧ Blk wr g 23 (qs.map pkV ++ List.replicate (n - j) (.slice none 0 0)) ∧ (∀ q ∈ qs, PkOk wr wr.heap.size q) ∧ Below w.heap.size w wr) (fun i _ => n - (intOf i).toNat)
  case atStart => exact ⟨0, [], Nat.zero_le _, rfl, rfl, by rw [List.take_zero], HB0.out, by simp, HL0.out⟩
  case round =>
    clear HB0 HL0
    obtain ⟨j, qs, hj, rfl, hq1, hq2, hblk, hqs, hbel⟩ := hrel
    by_cases hjn : j < n
    · have d1 : decide ((j : Int) < (n : Int)) = true := by simp; omega
      obtain ⟨b, off, rfl⟩ := HR.out.addr (by omega)
      obtain ⟨p, hp⟩ : ∃ p, ps[j]? = some p := ⟨ps[j]'(by rw [HR.out.len]; exact hjn), List.getElem?_eq_getElem _⟩
      have hat := (HR.out.below hbel).at j p hp
      have HOK := Lib.hid (show PkOk wr wr.heap.size p from ((HR.out.below hbel).ok hp).mono hbel.size)
      have hft := hat.2
      have HPS := Lib.hid (show p.n ≤ 100000 from HS.out p (List.mem_of_getElem? hp))
      have HQ := Lib.hid (show psB (ps.take (j + 1)) = psB qs ++ [p.l] from by rw [take_snoc hp, hq2]; simp [psB])
      have HBLK := Lib.hid hblk
      have HQS := Lib.hid hqs
      have HBEL := Lib.hid hbel
      have HQ1 := Lib.hid hq1
      clear hat hp hq2 hblk hqs hbel hq1
      go_upto_region 5 with fail
      clear hft
      go_wp2_with fail
      refine (bclone_own p.A p.n p.c p.l (by have := HPS.out; omega) wr HOK.out.1).mono ?_
      rintro e w2 ⟨A2, c2, rfl, ho, hb⟩
      have HW2 := Lib.hid (show Blk w2 g 23 (qs.map pkV ++ List.replicate (n - j) (.slice none 0 0)) from HBLK.out.below hb HBLK.out.lt)
      have hok2 : PkOk w2 w2.heap.size (Part.mk A2 p.n c2 p.l) := ⟨Rd.of_own ho, own_cap ho⟩
      have hqs2 : ∀ q ∈ qs, PkOk w2 w2.heap.size q := fun q hq => ((HQS.out q hq).below hb).mono hb.size
      have hno : ∀ v ∈ qs.map pkV ++ List.replicate (n - j) (.slice none 0 0), ∀ (k : IntKind) (x : Int), v ≠ .int k x := by
        intro v hv k x e
        rcases List.mem_append.1 hv with h | h
        · exact pkV_noint qs v h k x e
        · rw [List.eq_of_mem_replicate h] at e
          cases e
      have HALL := Lib.hid (show ∀ (q : Part), q ∈ qs ++ [Part.mk A2 p.n c2 p.l] → PkOk (w2.setCell ⟨g, j, none⟩ (.slice A2 p.n c2)) w2.heap.size q from fun q hq => by
        rcases List.mem_append.1 hq with h | h
        · exact (hqs2 q h).put HW2.out hno _
        · rw [List.mem_singleton.1 h]
          exact hok2.put HW2.out hno _)
      have HBS := Lib.hid (show Blk (w2.setCell ⟨g, j, none⟩ (.slice A2 p.n c2)) g 23 ((qs ++ [Part.mk A2 p.n c2 p.l]).map pkV ++ List.replicate (n - (j + 1)) (.slice none 0 0)) from by
        have h := HW2.out.set_ j (.slice A2 p.n c2)
        rw [List.set_append_right _ _ (by rw [List.length_map, HQ1.out]; exact Nat.le_refl _), List.length_map, HQ1.out, Nat.sub_self, show n - j = (n - (j + 1)) + 1 from by omega, List.replicate_succ, List.set_cons_zero] at h
        rw [List.map_append, List.append_assoc]
        exact h)
      have HBL2 := Lib.hid (show Below w.heap.size w (w2.setCell ⟨g, j, none⟩ (.slice A2 p.n c2)) from (HBEL.out.trans (hb.mono HBEL.out.size)).setCell (by rw [HG.out]; exact Nat.le_refl _) _)
      have fx : w2.cell? ⟨g, j, none⟩ = some (.slice none 0 0) := by
        rw [HW2.out.cell, List.getElem?_append_right (by rw [List.length_map, HQ1.out]; exact Nat.le_refl _), List.length_map, HQ1.out, Nat.sub_self, show n - j = (n - (j + 1)) + 1 from by omega, List.replicate_succ]
        rfl
      have zx : w2.frozen? ⟨g, j, none⟩ = false := HW2.out.frozen j
      have HSZ := Lib.hid (show w2.heap.size ≤ (w2.setCell ⟨g, j, none⟩ (.slice A2 p.n c2)).heap.size from by simp [World.setCell])
      clear ho hb hok2 hqs2 hno HBLK HQS HBEL
      go_upto_region 6 with fail
      clear fx zx
      generalize w2.setCell ⟨g, j, none⟩ (.slice A2 p.n c2) = w3 at HALL HBS HBL2 HSZ ⊢
      go_wp2_with fail
      go_roundw
      case rel => exact ⟨j + 1, qs ++ [Part.mk A2 p.n c2 p.l], by omega, by go_num, by rw [List.length_append, HQ1.out]; rfl, by rw [HQ.out]; simp [psB], HBS.out, fun q hq => (HALL.out q hq).mono HSZ.out, HBL2.out⟩
      case measure => simp [intOf]; omega
    · obtain rfl : j = n := by omega
      have d1 : decide ((j : Int) < (j : Int)) = false := by simp
      have HF := Lib.hid (show PkRd wr wr.heap.size (some ⟨g, 0, none⟩) j qs from PkRd.of_blk (by rw [Nat.sub_self, List.replicate_zero, List.append_nil] at hblk; exact hblk) hq1 hqs)
      have HQ2 := Lib.hid (show psB qs = psB ps from by rw [hq2, List.take_of_length_le (by rw [HR.out.len]; exact Nat.le_refl _)])
      have HBEL := Lib.hid hbel
      clear hblk hqs hbel hq1 hq2
      go_wp2
      go_ret
      exact ⟨_, qs, rfl, HF.out, HQ2.out, HBEL.out⟩
end Go.Proofs.Ytnmjcibhggchkaa
