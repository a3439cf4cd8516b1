/-
  The contract of the reference's filled: zero bytes up to a multiple of 16.
-/
import Derived.Test.YtafkedeelngnnaaBlkMore
import Derived.Test.YtafkedeelngnnaaAeMath
import Derived.Maps.AppendAt
import Derived.Outline
import Derived.Deep.DeepCutAuto
namespace Go.Proofs.Ytafkedeelngnnaa
open Go.RowKit

/-- a slice's length -/
def lenS : Value → Nat
  | .slice _ n _ => n
  | _ => 0
theorem below_own {w0 w w' : World} {v : Value} {e n : Nat} {xs : List Value} (hb : Below w0.heap.size w0 w) (hown : w.ownsRow w0.heap.size e 1 v n xs) (hg : w.grownBy w' v.ownBlock) : Below w0.heap.size w0 w' := hb.grown hg hb.size (own_from hown)
theorem rd_new (w : World) (t : TypeId) (l : List UInt8) : Rd (w.alloc (.cells (l.map u8v).toArray t)) (w.heap.size + 1) (some ⟨w.heap.size, 0, none⟩) l.length l := by
  have h := (Blk.new w t (l.map u8v)).rd 0 l.length (by omega)
  rwa [List.drop_zero, List.take_length] at h

set_option maxRecDepth 100000 in
set_option maxHeartbeats 1000000 in
theorem refFilled_any (B c : Nat) (A : Option Addr) (n : Nat) (l : List UInt8) (hn : n ≤ 1000000) (w : World) (hB : B ≤ w.heap.size) (hr : Rd w B A n l) :
    Calls Try.prog 25 #[.slice A n c] w fun e w' => ∃ A' c', e = .returned (.slice A' (l ++ padL l).length c') ∧ w'.ownsRow w.heap.size 5 1 (.slice A' (l ++ padL l).length c') (l ++ padL l).length ((l ++ padL l).map u8v) ∧ Below w.heap.size w w' := by
  obtain ⟨i0, hi, hz0, hz1, hz2⟩ := info_parts Try.info5
  have HLN := Lib.hid hr.1
  obtain ⟨fl, hfl⟩ : ∃ fl, l ++ padL l = fl := ⟨_, rfl⟩
  rw [hfl]
  have HFL := Lib.hid hfl
  clear hfl
  have hr1 := hr.alloc hB (.cells #[] 5)
  have HR := Lib.hid hr1
  have hown0 := World.ownsRow_lit (base := w.heap.size) (e := 5) (size := 1) w #[] 0 (Nat.le_refl _) (by simp) rfl
  have hb0 : Below w.heap.size w (w.alloc (.cells #[] 5)) := (Below.refl _ _).alloc (Nat.le_refl _) _
  have H0 := Lib.hid (And.intro hown0 hb0)
  clear hr hr1 hown0 hb0
  go_enter Try.func25, Try.ntmps25
  go_upto_region 1 with fail
  go_wp2_with (refine wpList_append_rd _ rfl (.tmp 4) (.tmp 5) 26 rfl w.heap.size 5 i0 (.int .u8 0) Try.underlying26 hi hz0 hz1 hz2 rfl (.slice (some ⟨w.heap.size, 0, none⟩) 0 0) 0 [] rfl H0.out.1 _ _ _ _ _ rfl HR.out (by omega) H0.out.2.size ?_; intro v1 w1 hown1 hg1)
  rw [Nat.zero_add, List.nil_append] at hown1
  have HW := Lib.hid (And.intro hown1 (H0.out.2.grown hg1 H0.out.2.size (own_from H0.out.1)))
  clear hown1 hg1 H0
  obtain ⟨pn, hpn⟩ : ∃ pn, (16 - l.length % 16) % 16 = pn := ⟨_, rfl⟩
  have HP := Lib.hid hpn
  have hpl : pn ≤ 15 := by omega
  clear hpn
  go_loopw [3] (fun v wr => ∃ j : Nat, j ≤ pn ∧ wr.ownsRow w.heap.size 5 1 v (n + j) ((l ++ List.replicate j 0).map u8v) ∧ Below w.heap.size w wr) (fun v _ => n + 16 - lenS v)
  case atStart => exact ⟨0, by omega, by rw [List.replicate_zero, List.append_nil]; exact HW.out.1, HW.out.2⟩
  case round =>
    clear HW
    obtain ⟨j, hj, hown, hb⟩ := hrel
    obtain ⟨A1, c1, rfl, _⟩ := own_slice hown
    have HO := Lib.hid (And.intro hown hb)
    clear hown hb
    have hmod : (n + j) % 16 = 0 ↔ j = pn := by have := HP.out; have := HLN.out; omega
    by_cases hlt : j < pn
    · have hd : ((((n : Int) + (j : Int)) % 16 != 0) = true) := by
        have : ¬ ((n : Int) + (j : Int)) % 16 = 0 := by omega
        simp [this]
      have hnew := rd_new wr 5 [0]
      have hown1 := HO.out.1.alloc (.cells ([0].map u8v).toArray 5)
      have hb1 := HO.out.2.alloc HO.out.2.size (.cells ([0].map u8v).toArray 5)
      rw [show ([0].map u8v).toArray = #[.int .u8 0] from rfl] at hnew hown1 hb1
      have HN := Lib.hid (And.intro hnew (And.intro hown1 hb1))
      clear hnew hown1 hb1
      go_upto_region 3 with fail
      clear hd
      go_wp2_with (refine wpList_append_rd _ rfl (.tmp 11) (.tmp 12) 26 rfl w.heap.size 5 i0 (.int .u8 0) Try.underlying26 hi hz0 hz1 hz2 rfl (.slice A1 (n + j) c1) (n + j) ((l ++ List.replicate j 0).map u8v) rfl HN.out.2.1 (wr.heap.size + 1) (some ⟨wr.heap.size, 0, none⟩) 1 1 [0] rfl HN.out.1 (by omega) HN.out.2.2.size ?_; intro v2 w2 hown2 hg2)
      have HW := Lib.hid (And.intro hown2 (HN.out.2.2.grown hg2 HN.out.2.2.size (own_from HN.out.2.1)))
      clear hown2 hg2
      go_roundw
      case rel =>
        refine ⟨j + 1, by omega, ?_, HW.out.2⟩
        have h := HW.out.1
        rw [← List.map_append, List.append_assoc, show List.replicate j (0 : UInt8) ++ [0] = List.replicate (j + 1) 0 from (List.replicate_succ').symm] at h
        exact h
      case measure =>
        obtain ⟨A3, c3, rfl, _⟩ := own_slice HW.out.1
        simp [lenS]
        omega
    · obtain rfl : j = pn := by omega
      have hd : ((((n : Int) + (j : Int)) % 16 != 0) = false) := by
        have : ((n : Int) + (j : Int)) % 16 = 0 := by omega
        simp [this]
      have e : l ++ List.replicate j 0 = fl := by rw [← HFL.out, padL, HP.out]
      have e2 : n + j = fl.length := by rw [← e, List.length_append, List.length_replicate, HLN.out]
      have h := HO.out.1
      rw [e, e2] at h
      have HF := Lib.hid (And.intro h HO.out.2)
      have HE := Lib.hid e2
      clear h e e2 HO
      go_wp2
      rw [HE.out]
      go_ret
      exact ⟨_, _, rfl, HF.out.1, HF.out.2⟩
theorem refFilled_m (c : Nat) (A : Option Addr) (n : Nat) (l : List UInt8) (hn : n ≤ 1000000) (m : Nat) (hm : (l ++ padL l).length = m) (w : World) (hr : Rd w w.heap.size A n l) :
    Calls Try.prog 25 #[.slice A n c] w fun e w' => ∃ A' c', e = .returned (.slice A' m c') ∧ Rd w' w'.heap.size A' m (l ++ padL l) ∧ Below w.heap.size w w' := by
  refine (refFilled_any _ c A n l hn w (Nat.le_refl _) hr).mono ?_
  rintro e w' ⟨A', c', he, ho, hb⟩
  rw [hm] at he ho
  exact ⟨A', c', he, Rd.of_own ho, hb⟩
end Go.Proofs.Ytafkedeelngnnaa
