/-
  What the laws of layer 4 ask of aead.Seal, Open and Counter, and the sanity check: the chapter's example holds.
-/
import Derived.Test.YtafkedeelngnnaaAeMore
import Derived.Test.YtafkedeelngnnaaBuildBytes
import Derived.Lib.SlBytesConst
import Derived.Deep.DeepCutAuto
import Derived.Outline
namespace Go.Proofs.Ytafkedeelngnnaa
open Go.RowKit

/-- aead.Seal seals -/
def SealC : Prop := ∀ (k nn : List UInt8), k.length = 32 → nn.length = 12 → ∀ (Ap Am : Option Addr) (np cp nm cm : Nat) (pl more : List UInt8), np ≤ cp → cp ≤ maxLen → nm ≤ cm → cm ≤ maxLen → np ≤ 100000 → nm ≤ 100000 → ∀ w : World, Rd w w.heap.size Ap np pl → Rd w w.heap.size Am nm more →
  Calls Try.prog 8 #[.agg (k.map u8v).toArray, .agg (nn.map u8v).toArray, .slice Ap np cp, .slice Am nm cm] w fun e w' => ∃ A c', e = .returned (.slice A (np + 16) c') ∧ w'.ownsRow w.heap.size 5 1 (.slice A (np + 16) c') (np + 16) ((sealL k nn pl more).map u8v) ∧ Below w.heap.size w w'
/-- aead.Open opens, or gives the error -/
def OpenC : Prop := ∀ (k nn : List UInt8), k.length = 32 → nn.length = 12 → ∀ (As Am : Option Addr) (ns cs nm cm : Nat) (sl more : List UInt8), ns ≤ cs → cs ≤ maxLen → nm ≤ cm → cm ≤ maxLen → ns ≤ 100000 → nm ≤ 100000 → ∀ w : World, Rd w w.heap.size As ns sl → Rd w w.heap.size Am nm more →
  Calls Try.prog 9 #[.agg (k.map u8v).toArray, .agg (nn.map u8v).toArray, .slice As ns cs, .slice Am nm cm] w fun e w' => ∃ A c', e = .returned (.tuple #[.slice A (openL k nn sl more).1.length c', .int .i64 ((openL k nn sl more).2 : Int)]) ∧ Rd w' w'.heap.size A (openL k nn sl more).1.length (openL k nn sl more).1 ∧ (openL k nn sl more).1.length ≤ c' ∧ c' ≤ maxLen ∧ Below w.heap.size w w'
/-- aead.Counter gives the nonce -/
def CountC : Prop := ∀ (n : Nat), n < 18446744073709551616 → ∀ w : World,
  Calls Try.prog 12 #[.int .u64 n] w fun e w' => e = .returned (.agg ((countL n).map u8v).toArray) ∧ Below w.heap.size w w'

theorem ae_conv {w : World} {B n : Nat} {A : Option Addr} {l : List UInt8} (h : Rd w B A n l) (c : Nat) : (convert 26 9 (.slice A n c)).run Try.prog w = .ok (.string ⟨l.toArray⟩) w :=
  run_string_of_rd (P := Try.prog) 26 9 5 c Try.underlying26 Try.underlying5 Try.underlying9 h
def aeRow (j : Nat) : List UInt8 := aeK.take j ++ List.replicate (32 - j) 0
theorem aeK_length : aeK.length = 32 := by simp [aeK]
theorem aeRow_length (j : Nat) (h : j ≤ 32) : (aeRow j).length = 32 := by
  rw [aeRow, List.length_append, List.length_take, List.length_replicate, aeK_length]; omega
theorem aeRow_set (j : Nat) (h : j < 32) : (aeRow j).set j (UInt8.ofNat (128 + j)) = aeRow (j + 1) := by
  have hk := aeK_length
  unfold aeRow
  rw [List.set_append_right _ _ (by rw [List.length_take]; omega), List.length_take, hk, Nat.min_eq_left (by omega), Nat.sub_self, show 32 - j = (32 - (j + 1)) + 1 by omega, List.replicate_succ, List.set_cons_zero, List.take_succ_eq_append_getElem (by omega), List.append_assoc]
  simp [aeK]
theorem aeRow_end : aeRow 32 = aeK := by rw [aeRow, List.take_of_length_le (by rw [aeK_length]; exact Nat.le_refl _)]; simp
theorem ae_u8 (j : Nat) (h : j < 32) : u8v (UInt8.ofNat (128 + j)) = .int .u8 (128 + (j : Int)) := by
  unfold u8v
  rw [UInt8.toNat_ofNat', Nat.mod_eq_of_lt (by omega)]
  simp
theorem rd_new' (w : World) (t : TypeId) (l : List UInt8) : Rd (w.alloc (.cells (l.map u8v).toArray t)) (w.heap.size + 1) (some ⟨w.heap.size, 0, none⟩) l.length l := by
  have h := (Blk.new w t (l.map u8v)).rd 0 l.length (by omega)
  rwa [List.drop_zero, List.take_length] at h
theorem rd_mark (w : World) (t : TypeId) (l : List UInt8) (n : Nat) (hl : l.length = n) (fr : Nat × Nat) : Rd (w.alloc (.cells (l.map u8v).toArray t fr)) (w.heap.size + 1) (some ⟨w.heap.size, 0, none⟩) n l := by
  refine ⟨hl, fun _ => ⟨w.heap.size, 0, rfl, by omega, fun j hj => ?_⟩⟩
  rw [Nat.zero_add, World.cell?_alloc_mark]
  simpa using map_u8v_getElem? l j hj

set_option maxRecDepth 100000 in
set_option maxHeartbeats 8000000 in
theorem begun_any (HS : SealC) (w : World) : Calls Try.prog 11 #[] w fun e w' => e = .returned (.bool true) ∧ Below w.heap.size w w' := by
  obtain ⟨i0, hi, hz0, hz1, hz2⟩ := info_parts Try.info5
  obtain ⟨pa, hpa⟩ : ∃ pa, (aeP.map u8v).toArray = pa := ⟨_, rfl⟩
  have HPA := Lib.hid hpa
  clear hpa
  have hb0 := Blk.new w 23 (aeZ 32)
  have hl0 : Below w.heap.size w (w.alloc (.cells (aeZ 32).toArray 23)) := (Below.refl _ _).alloc (Nat.le_refl _) _
  rw [aeZ32] at hb0 hl0
  go_enter Try.func11, Try.ntmps11
  go_upto_region 2 with fail
  generalize w.alloc (.cells #[.int .u8 0, .int .u8 0, .int .u8 0, .int .u8 0, .int .u8 0, .int .u8 0, .int .u8 0, .int .u8 0, .int .u8 0, .int .u8 0, .int .u8 0, .int .u8 0, .int .u8 0, .int .u8 0, .int .u8 0, .int .u8 0, .int .u8 0, .int .u8 0, .int .u8 0, .int .u8 0, .int .u8 0, .int .u8 0, .int .u8 0, .int .u8 0, .int .u8 0, .int .u8 0, .int .u8 0, .int .u8 0, .int .u8 0, .int .u8 0, .int .u8 0, .int .u8 0] 23) = w1 at hb0 hl0 ⊢
  have H1 := Lib.hid (And.intro hb0 hl0)
  clear hb0 hl0
  go_wp2_with fail
  go_loopw [6, 2] (fun v _ wr => ∃ j : Nat, j ≤ 32 ∧ v = .int .i64 (j : Int) ∧ Blk wr w.heap.size 23 ((aeRow j).map u8v) ∧ Below w.heap.size w wr) (fun v _ _ => 32 - (intOf v).toNat)
  case atStart => exact ⟨0, by omega, rfl, H1.out.1, H1.out.2⟩
  case round =>
    clear H1
    obtain ⟨j, hj, rfl, hrow, hbel⟩ := hrel
    by_cases hlt : j < 32
    · have d32 : decide ((j : Int) < 32) = true := by simp; omega
      have fx : ∃ u, wr.cell? ⟨w.heap.size, j, none⟩ = some u := by
        rw [hrow.cell j]
        exact ⟨_, List.getElem?_eq_getElem (by rw [List.length_map, aeRow_length j hj]; omega)⟩
      obtain ⟨u, fx⟩ := fx
      have zx := hrow.frozen j
      have hset := hrow.set_ j (u8v (UInt8.ofNat (128 + j)))
      rw [← List.map_set, aeRow_set j hlt, ae_u8 j hlt] at hset
      have hw1 : IntKind.i64.wrap (128 + (j : Int)) = 128 + (j : Int) := IntWalk.i64_in _ (by omega)
      have hw2 : IntKind.u8.wrap (128 + (j : Int)) = 128 + (j : Int) := by rw [IntKind.wrap_u8]; omega
      have HN := Lib.hid (And.intro hset (hbel.setCell (p := ⟨w.heap.size, j, none⟩) (Nat.le_refl _) (.int .u8 (128 + (j : Int)))))
      clear hrow hbel hset
      go_wp2_with fail
      refine ⟨⟨j + 1, by omega, by go_num, HN.out.1, HN.out.2⟩, ?_⟩
      simp [intOf]; omega
    · obtain rfl : j = 32 := by omega
      rw [aeRow_end] at hrow
      have H2 := Lib.hid (And.intro hrow hbel)
      clear hrow hbel
      rw [show ((32 : Nat) : Int) = 32 from rfl]
      have SC := HS aeK aeN aeK_length rfl
      obtain ⟨ak, hak⟩ : ∃ a, (aeK.map u8v).toArray = a := ⟨_, rfl⟩
      obtain ⟨an, han⟩ : ∃ a, (aeN.map u8v).toArray = a := ⟨_, rfl⟩
      have HNM := Lib.hid (show #[.int .u8 7, .int .u8 0, .int .u8 0, .int .u8 0, .int .u8 64, .int .u8 65, .int .u8 66, .int .u8 67, .int .u8 68, .int .u8 69, .int .u8 70, .int .u8 71] = an by rw [← han]; rfl)
      rw [hak, han] at SC
      have HSC := Lib.hid SC
      have HA := Lib.hid (And.intro hak han)
      clear SC hak han
      go_upto_region 8 with (refine wpList_store_blk rfl 25 (.tmp 3) (.tmp 15) rfl wr.heap.size (aeN.map u8v) rfl (by rw [HA.out.2]; exact congrArg Value.agg HNM.out) 25 (aeZ 12) (Blk.new wr 25 (aeZ 12)) (ae_cellsN aeN rfl) rfl (u8v_one _) ?_; intro w2 hb2 hg2)
      simp only [Act.put]
      have H3 := Lib.hid (show Blk w2 wr.heap.size 25 (aeN.map u8v) ∧ Blk w2 w.heap.size 23 (aeK.map u8v) ∧ Below w.heap.size w w2 from ⟨hb2, (H2.out.1.alloc _).grown hg2 (by have := H2.out.1.lt; simp; omega), below_blk (H2.out.2.alloc H2.out.2.size (.cells (aeZ 12).toArray 25)) hg2 H2.out.2.size⟩)
      clear hb2 hg2 H2
      generalize wr.heap.size = P at H3 ⊢
      go_upto_region 9 with fail
      have hm := rd_new' w2 5 aeM
      have hb4 : Below w2.heap.size w2 (w2.alloc (.cells (aeM.map u8v).toArray 5)) := (Below.refl _ _).alloc (Nat.le_refl _) _
      rw [show (aeM.map u8v).toArray = #[.int .u8 80, .int .u8 81, .int .u8 82, .int .u8 83, .int .u8 192, .int .u8 193, .int .u8 194, .int .u8 195, .int .u8 196, .int .u8 197, .int .u8 198, .int .u8 199] from rfl] at hm hb4
      have H4 := Lib.hid (And.intro (hm.mono (show w2.heap.size + 1 ≤ (w2.alloc (.cells #[.int .u8 80, .int .u8 81, .int .u8 82, .int .u8 83, .int .u8 192, .int .u8 193, .int .u8 194, .int .u8 195, .int .u8 196, .int .u8 197, .int .u8 198, .int .u8 199] 5)).heap.size by simp)) (And.intro (H3.out.1.below hb4 H3.out.1.lt) (And.intro (H3.out.2.1.below hb4 H3.out.2.1.lt) (H3.out.2.2.trans (hb4.mono H3.out.2.2.size)))))
      clear hm hb4 H3
      generalize w2.alloc (.cells #[.int .u8 80, .int .u8 81, .int .u8 82, .int .u8 83, .int .u8 192, .int .u8 193, .int .u8 194, .int .u8 195, .int .u8 196, .int .u8 197, .int .u8 198, .int .u8 199] 5) = w4 at H4 ⊢
      generalize w2.heap.size = M at H4 ⊢
      have kc := fun (w : World) (C : Array Value) (n c : Nat) => Lib.run_convert_bytes_const (P := Try.prog) w 26 5 C n c Try.underlying26 Try.underlying5
      go_wp2_with (first | (refine wpList_load_blk rfl 23 (.tmp 1) rfl w.heap.size rfl 23 (aeK.map u8v) H4.out.2.2.1 32 5 Try.underlying23 (cells32 aeK aeK_length) ?_; rw [HA.out.1]) | (refine wpList_load_blk rfl 25 (.tmp 3) rfl P rfl 25 (aeN.map u8v) H4.out.2.1 12 5 Try.underlying25 (ae_cellsN aeN rfl) ?_; rw [HA.out.2]; refine wpList_buildBytes rfl 26 5 114 _ rfl aeP ?hps (by rfl) (by omega) (by omega) Try.underlying26 i0 hi hz1 _ hz0 ?_; (case hps => kernel_rfl); rw [HPA.out]))
      clear kc
      have hsz : pa.size = 114 := by rw [← HPA.out]; rfl
      have hrp := rd_mark w4 5 aeP 114 rfl (pa.size, pa.size + 1)
      have hb5 : Below w4.heap.size w4 (w4.alloc (.cells (aeP.map u8v).toArray 5 (pa.size, pa.size + 1))) := (Below.refl _ _).alloc (Nat.le_refl _) _
      rw [HPA.out] at hrp hb5
      have H5 := Lib.hid (And.intro (hrp.mono (show w4.heap.size + 1 ≤ (w4.alloc (.cells pa 5 (pa.size, pa.size + 1))).heap.size by simp)) (And.intro ((H4.out.1.below hb5).mono hb5.size) (H4.out.2.2.2.trans (hb5.mono H4.out.2.2.2.size))))
      clear hrp hb5 H4
      generalize w4.alloc (.cells pa 5 (pa.size, pa.size + 1)) = w5 at H5 ⊢
      generalize w4.heap.size = PB at H5 ⊢
      refine (HSC.out _ _ 114 114 12 12 aeP aeM (by omega) (by unfold maxLen; omega) (by omega) (by unfold maxLen; omega) (by omega) (by omega) w5 H5.out.1 H5.out.2.1).mono ?_
      rintro e w6 ⟨A6, c6, rfl, ho6, hb6⟩
      obtain ⟨q1, q2, hA⟩ := own_addr ho6
      obtain ⟨g6, rfl⟩ := hA (by omega)
      have hr6 := Rd.of_own ho6
      rw [ae_seal] at hr6
      have s1 : (aeC ++ aeT).take 4 = [211, 26, 141, 52] := by decide
      have s2 : (aeC ++ aeT).drop 114 = [26, 225, 11, 89, 79, 9, 226, 106, 126, 144, 46, 203, 208, 96, 6, 145] := by decide
      have r1 := hr6.take (m := 4) (by omega)
      have r2 := hr6.drop 114 g6 0 rfl (by omega)
      rw [s1] at r1
      rw [s2] at r2
      have b1 : (4 : Int) ≤ (c6 : Int) := by omega
      have b2 : ¬ c6 = 114 := by omega
      have cv1 : (convert 26 9 (.slice (some ⟨g6, 0, none⟩) 4 c6)).run Try.prog w6 = .ok (.string ⟨#[211, 26, 141, 52]⟩) w6 := ae_conv r1 c6
      have cv2 : (convert 26 9 (.slice (some ⟨g6, 114, none⟩) 16 (c6 - 114))).run Try.prog w6 = .ok (.string ⟨#[26, 225, 11, 89, 79, 9, 226, 106, 126, 144, 46, 203, 208, 96, 6, 145]⟩) w6 := ae_conv r2 _
      have HF := Lib.hid (H5.out.2.2.trans (hb6.mono H5.out.2.2.size))
      clear ho6 hr6 r1 r2 s1 s2 hb6 H5 HSC
      go_wp2_with fail
      go_ret
      exact ⟨rfl, HF.out⟩
end Go.Proofs.Ytafkedeelngnnaa
