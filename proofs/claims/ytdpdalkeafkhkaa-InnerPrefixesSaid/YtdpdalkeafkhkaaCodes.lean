/-
  The contracts of the choices that the statements are made of: Left, Next. No statement is proved here.
-/
import Derived.Test.YtdpdalkeafkhkaaMemG
import Derived.Test.YtdpdalkeafkhkaaObj
import Derived.Test.YtdpdalkeafkhkaaWord
import Derived.Deep.DeepCutAuto
namespace Go.Proofs.Ytdpdalkeafkhkaa
open Go.RowKit

/-- the list of choices that lies at A, p of them taken -/
def codesC (A : Option Addr) (n c p : Nat) : List Value := [.slice A n c, .int .i64 (p : Int)]
def nextV (l : List UInt8) (p m : Nat) : Nat := if p < l.length ∧ 1 ≤ m then (l.getD p 0).toNat % m else 0
def nextP (l : List UInt8) (p m : Nat) : Nat := if p < l.length ∧ 1 ≤ m then p + 1 else p
theorem nextP_le (l : List UInt8) (p m : Nat) (h : p ≤ l.length) : nextP l p m ≤ l.length := by unfold nextP; split <;> omega
theorem nextV_lt (l : List UInt8) (p m : Nat) (h : 1 ≤ m) : nextV l p m < m := by unfold nextV; split; exact Nat.mod_lt _ h; omega
set_option maxRecDepth 100000 in
theorem caseLeft_any (g : Nat) (A : Option Addr) (n c : Nat) (p : Nat) (w : World) (hg : Blk w g 61 (codesC A n c p)) :
    Calls Try.prog 44 #[.pointer (some ⟨g, 0, none⟩)] w fun e w' => e = .returned (.bool (decide (p < n))) ∧ Below w.heap.size w w' := by
  have HG := Lib.hid hg
  have hd : decide ((p : Int) < (n : Int)) = decide (p < n) := by simp
  obtain ⟨q, hq⟩ : ∃ q, decide (p < n) = q := ⟨_, rfl⟩
  rw [hq] at hd
  have HQ := Lib.hid hq
  clear hg hq
  go_enter Try.func44, Try.ntmps44
  have f0 := HG.out.cell 0
  have f1 := HG.out.cell 1
  rw [show (codesC A n c p)[0]? = some (.slice A n c) from rfl] at f0
  rw [show (codesC A n c p)[1]? = some (.int .i64 (p : Int)) from rfl] at f1
  go_upto_region 1 with fail
  go_region
  go_wp2
  go_ret
  exact ⟨by rw [HQ.out]; rfl, (Below.refl _ _).drew⟩
set_option maxRecDepth 100000 in
set_option maxHeartbeats 2000000 in
theorem caseNext_any (g : Nat) (A : Option Addr) (n c : Nat) (l : List UInt8) (p : Nat) (hn : n ≤ 100000) (hp : p ≤ n) (m : Nat) (hm : m ≤ 1000000) (B : Nat) (hB : B ≤ g) (w : World) (hg : Blk w g 61 (codesC A n c p)) (hr : Rd w B A n l) :
    Calls Try.prog 32 #[.pointer (some ⟨g, 0, none⟩), .int .i64 (m : Int)] w fun e w' => e = .returned (.int .i64 (nextV l p m : Int)) ∧ Blk w' g 61 (codesC A n c (nextP l p m)) ∧ w.grownBy w' (some g) := by
  have hl := hr.1
  have LC := caseLeft_any g A n c p w hg
  have HG := Lib.hid hg
  have HR := Lib.hid hr
  have HLC := Lib.hid LC
  clear hg hr LC
  by_cases hpn : p < n
  · by_cases hm1 : 1 ≤ m
    · have HV := Lib.hid (show nextV l p m = (l.getD p 0).toNat % m ∧ nextP l p m = p + 1 from ⟨if_pos ⟨by omega, hm1⟩, if_pos ⟨by omega, hm1⟩⟩)
      obtain ⟨b, off, rfl, hb0, _⟩ := HR.out.at_ (by omega)
      go_enter Try.func32, Try.ntmps32
      go_upto_region 1 with fail
      go_wp2_with fail
      refine HLC.out.mono ?_
      rintro e w1 ⟨rfl, hb⟩
      rw [decide_eq_true hpn]
      have HG1 := Lib.hid (HG.out.below hb HG.out.lt)
      have HR1 := Lib.hid ((HR.out.mono (Nat.le_trans hB (Nat.le_of_lt HG.out.lt))).below hb)
      have HW := Lib.hid (grownB (grown_refl w (some g)) hb)
      clear hb HLC
      have dm : decide ((m : Int) < 1) = false := by simp; omega
      have f0 := HG1.out.cell 0
      have f1 := HG1.out.cell 1
      rw [show (codesC (some ⟨b, off, none⟩) n c p)[0]? = some (.slice (some ⟨b, off, none⟩) n c) from rfl] at f0
      rw [show (codesC (some ⟨b, off, none⟩) n c p)[1]? = some (.int .i64 (p : Int)) from rfl] at f1
      have z1 := HG1.out.frozen 1
      have hw1 : IntKind.i64.wrap ((p : Int) + 1) = ((p + 1 : Nat) : Int) := by rw [IntWalk.i64_in _ (by omega)]; omega
      obtain ⟨p1, hp1⟩ : ∃ q, p + 1 = q := ⟨_, rfl⟩
      rw [hp1] at hw1
      have hs := HG1.out.set_ 1 (.int .i64 (p1 : Int))
      have HS := Lib.hid (show Blk (w1.setCell ⟨g, 1, none⟩ (.int .i64 (p1 : Int))) g 61 (codesC (some ⟨b, off, none⟩) n c p1) from hs)
      have HW2 := Lib.hid (show w.grownBy (w1.setCell ⟨g, 1, none⟩ (.int .i64 (p1 : Int))) (some g) from grown_set HW.out 1 _)
      have hfx : (w1.setCell ⟨g, 1, none⟩ (.int .i64 (p1 : Int))).cell? ⟨b, off + p, none⟩ = some (.int .u8 ((l.getD p 0).toNat : Int)) := by
        rw [World.cell?_of_block (w := w1) (Below.heap_setCell _ _ _ _ (by dsimp only; omega))]
        exact HR1.out.byt p hpn
      have HFX := Lib.hid hfx
      clear hs hfx
      go_upto_region 4 with fail
      clear f0 f1 z1 dm
      (try simp only [hw1])
      generalize w1.setCell ⟨g, 1, none⟩ (.int .i64 (p1 : Int)) = w2 at HS HW2 HFX ⊢
      clear hw1
      have f0 := HS.out.cell 0
      have f1 := HS.out.cell 1
      rw [show (codesC (some ⟨b, off, none⟩) n c p1)[0]? = some (.slice (some ⟨b, off, none⟩) n c) from rfl] at f0
      rw [show (codesC (some ⟨b, off, none⟩) n c p1)[1]? = some (.int .i64 (p1 : Int)) from rfl] at f1
      have fx := HFX.out
      generalize l.getD p 0 = x at fx HV
      have hw2 : IntKind.i64.wrap ((p1 : Int) - 1) = (p : Int) := by rw [IntWalk.i64_in _ (by omega)]; omega
      have hw3 : (p1 : Int) - 1 = (p : Int) := by omega
      have hw4 : IntKind.i64.wrap (p : Int) = (p : Int) := IntWalk.i64_in _ (by omega)
      have hx256 := x.toNat_lt
      have hw5 : IntKind.i64.wrap (x.toNat : Int) = (x.toNat : Int) := IntWalk.i64_in _ (by omega)
      have bp : (p : Int) < (n : Int) := by omega
      have hmz : ((m : Int) == 0) = false := by rw [beq_eq_false_iff_ne]; omega
      have hmz' : ¬ (m : Int) = 0 := by omega
      obtain ⟨r, hr⟩ : ∃ r, x.toNat % m = r := ⟨_, rfl⟩
      have hmod : (x.toNat : Int).tmod (m : Int) = (r : Int) := by rw [← hr, Int.tmod_eq_emod_of_nonneg (by omega), Int.natCast_emod]
      have hmod2 : (x.toNat : Int) % (m : Int) = (r : Int) := by rw [← hr, Int.natCast_emod]
      rw [hr, hp1] at HV
      have hwr : IntKind.i64.wrap (r : Int) = (r : Int) := IntWalk.i64_in _ (by rw [← hr]; have := Nat.mod_le x.toNat m; omega)
      clear hr
      go_region
      go_wp2
      go_ret
      exact ⟨by rw [HV.out.1]; rfl, by rw [HV.out.2]; exact HS.out.drew, grownD HW2.out⟩
    · have HV := Lib.hid (show nextV l p m = 0 ∧ nextP l p m = p from ⟨if_neg (by omega), if_neg (by omega)⟩)
      go_enter Try.func32, Try.ntmps32
      go_upto_region 1 with fail
      go_wp2_with fail
      refine HLC.out.mono ?_
      rintro e w1 ⟨rfl, hb⟩
      rw [decide_eq_true hpn]
      have HG1 := Lib.hid (HG.out.below hb HG.out.lt)
      have HW := Lib.hid (grownB (grown_refl w (some g)) hb)
      clear hb HLC
      have dm : decide ((m : Int) < 1) = true := by simp; omega
      go_wp2
      go_ret
      exact ⟨by rw [HV.out.1]; rfl, by rw [HV.out.2]; exact HG1.out, HW.out⟩
  · have HV := Lib.hid (show nextV l p m = 0 ∧ nextP l p m = p from ⟨if_neg (by omega), if_neg (by omega)⟩)
    go_enter Try.func32, Try.ntmps32
    go_upto_region 1 with fail
    go_wp2_with fail
    refine HLC.out.mono ?_
    rintro e w1 ⟨rfl, hb⟩
    rw [decide_eq_false hpn]
    have HG1 := Lib.hid (HG.out.below hb HG.out.lt)
    have HW := Lib.hid (grownB (grown_refl w (some g)) hb)
    clear hb HLC
    go_wp2
    go_ret
    exact ⟨by rw [HV.out.1]; rfl, by rw [HV.out.2]; exact HG1.out, HW.out⟩
end Go.Proofs.Ytdpdalkeafkhkaa
