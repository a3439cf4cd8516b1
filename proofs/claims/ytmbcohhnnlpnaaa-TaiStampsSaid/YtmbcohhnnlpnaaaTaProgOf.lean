/-
  The contract of tai.Of.
-/
import Derived.Test.YtmbcohhnnlpnaaaTaGuess
import Derived.Test.YtmbcohhnnlpnaaaTaCmp
import Derived.Test.YtmbcohhnnlpnaaaTaOfC
import Derived.Test.YtmbcohhnnlpnaaaTaTickC
import Derived.Test.YtmbcohhnnlpnaaaTaAfterC
import Derived.Test.YtmbcohhnnlpnaaaCoJoin
import Derived.Test.YtmbcohhnnlpnaaaBig
import Derived.Test.YtmbcohhnnlpnaaaLoadOff
import Derived.Test.YtmbcohhnnlpnaaaKeyMem
namespace Go.Proofs.Ytmbcohhnnlpnaaa
open Go.RowKit

set_option maxRecDepth 100000 in
theorem coJoin_two (g : Nat) (t : TypeId) (A1 A2 : Option Addr) (n1 c1 n2 c2 : Nat) (l1 l2 : List UInt8) (M : Nat) (hM : n1 + n2 = M) (hn : M ≤ 1000000) (hp : 0 < M) (w : World) (hb : Blk w g t [.slice A1 n1 c1, .slice A2 n2 c2])
    (h1 : Rd w w.heap.size A1 n1 l1) (h2 : Rd w w.heap.size A2 n2 l2) :
    Calls Try.prog 16 #[.slice (some ⟨g, 0, none⟩) 2 2] w fun e w' => ∃ q c', e = .returned (.slice (some ⟨q, 0, none⟩) M c') ∧ Rd w' w'.heap.size (some ⟨q, 0, none⟩) M (l1 ++ l2) ∧ Below w.heap.size w w' := by
  have hf : flat [⟨A1, n1, c1, l1⟩, ⟨A2, n2, c2, l2⟩] 2 = l1 ++ l2 := by simp [flat]
  have hl : (l1 ++ l2).length = M := by simp only [List.length_append]; rw [h1.1, h2.1, hM]
  have hJ := coJoin_any w.heap.size 2 (some ⟨g, 0, none⟩) [⟨A1, n1, c1, l1⟩, ⟨A2, n2, c2, l2⟩] (by simp) (by show (flat _ 2).length ≤ _; rw [hf, hl]; exact hn) w (Nat.le_refl _) (fun _ => ⟨g, rfl, hb.lt, fun j hj => by
    rw [hb.cell]
    match j, hj with
    | 0, _ => exact ⟨rfl, h1⟩
    | 1, _ => exact ⟨rfl, h2⟩
    | j + 2, hj => exact absurd hj (by simp)⟩)
  refine hJ.mono ?_
  rintro e w' ⟨A', c', he, ho, hbl⟩
  have e2 : ([⟨A1, n1, c1, l1⟩, ⟨A2, n2, c2, l2⟩] : List Part).length = 2 := rfl
  rw [e2, hf, hl] at he ho
  obtain ⟨_, _, q3⟩ := own_addr ho
  obtain ⟨q, rfl⟩ := q3 hp
  exact ⟨q, c', he, Rd.of_own ho, hbl⟩
theorem Rd.cells {w : World} {B n q : Nat} {l : List UInt8} (h : Rd w B (some ⟨q, 0, none⟩) n l) : ∀ j v, (l.map u8v)[j]? = some v → w.cell? ⟨q, 0 + j, none⟩ = some v := by
  intro j v hv
  have hj : j < l.length := by
    have := (List.getElem?_eq_some_iff.1 hv).1
    simpa using this
  obtain ⟨b, off, e, _, hc⟩ := h.at_ (by rw [← h.1]; omega)
  injection e with e
  injection e with e1 e2
  subst e1 e2
  rw [hc j hj]
  rw [List.getElem?_map, List.getElem?_eq_getElem hj] at hv
  simpa [u8v] using hv

/-- a slice that is long enough as an array -/
theorem run_arrayAt {P : Program} (w : World) (ty : TypeId) (g n c k : Nat) (e : TypeId) (hu : P.underlying ty = some (.array k e)) (h : k ≤ n) :
    (Instr.arrayAt ty (.slice (some ⟨g, 0, none⟩) n c)).run P w = .ok (.pointer (some ⟨g, 0, none⟩)) w := by
  unfold Instr.arrayAt
  rw [Sem.run_bind, run_underlying hu w]
  simp [Nat.not_lt.2 h]
set_option maxRecDepth 100000 in
set_option maxHeartbeats 8000000 in
theorem taOfC : TaOfC := by
  intro t ht1 ht2 w
  have HM := Lib.hid (show Mem w [blkE w.heap.size 23 (aeZ 12)] (w.alloc (.cells #[.int .u8 0, .int .u8 0, .int .u8 0, .int .u8 0, .int .u8 0, .int .u8 0, .int .u8 0, .int .u8 0, .int .u8 0, .int .u8 0, .int .u8 0, .int .u8 0] 23)) from (Mem.nil w).alloc rfl 23 _ (aeZ 12) rfl)
  have HSL := Lib.hid (stampL_length t)
  obtain ⟨so, hso⟩ : ∃ x, stampL t = x := ⟨_, rfl⟩
  rw [hso] at HSL ⊢
  obtain ⟨co, hco⟩ : ∃ x, (so.map u8v).toArray = x := ⟨_, rfl⟩
  have HCO := Lib.hid hco
  rw [hco]
  clear hco
  by_cases hr : t < 0 ∨ 1099511627776 < t
  · have hz : so = List.replicate 12 (0 : UInt8) := by rw [← hso, stampL, if_pos hr]
    have RC := Lib.hid (inRange_no t hr)
    have HZ := Lib.hid hz
    clear hso ht1 ht2 hr hz
    go_enter Try.func8, Try.ntmps8
    go_upto_region 1 with fail
    generalize w.alloc (.cells #[.int .u8 0, .int .u8 0, .int .u8 0, .int .u8 0, .int .u8 0, .int .u8 0, .int .u8 0, .int .u8 0, .int .u8 0, .int .u8 0, .int .u8 0, .int .u8 0] 23) = w1 at HM ⊢
    go_wp2_with fail
    refine (RC.out _).mono ?_
    rintro e wy ⟨rfl, hb⟩
    replace HM := Lib.hid (HM.out.below hb)
    clear hb
    go_wp2_with (first | (refine wpList_store_blk rfl 23 (.tmp 2) (.tmp 8) rfl w.heap.size (so.map u8v) rfl (by rw [HZ.out]; rfl) 23 (aeZ 12) (HM.out.blk 0 rfl) (stampCells so HSL.out) (by rw [List.length_map, HSL.out]; rfl) (u8v_one _) ?_; intro w9 hb9 hg9))
    exact bodyPost_ret (results_blk rfl _ _ w.heap.size 23 (so.map u8v) 12 5 rfl hb9 Try.underlying23 (stampCells so HSL.out)) rfl ⟨by rw [HCO.out], (HM.out.put 0 rfl _ hg9 hb9).bel⟩
  · obtain ⟨n, rfl⟩ : ∃ n : Nat, t = (n : Int) := ⟨t.toNat, by omega⟩
    have hn : n ≤ 1099511627776 := by omega
    rw [stampL_nat n hn] at hso
    obtain ⟨q, hq⟩ : ∃ q, n / 1000 = q := ⟨_, rfl⟩
    obtain ⟨r, hr⟩ : ∃ r, n % 1000 = r := ⟨_, rfl⟩
    obtain ⟨S, hS⟩ : ∃ S, epochN + q = S := ⟨_, rfl⟩
    obtain ⟨N, hN⟩ : ∃ N, r * 1000000 = N := ⟨_, rfl⟩
    have hqb : q ≤ 1099511627 := by omega
    have hrb : r < 1000 := by omega
    have HEQ := Lib.hid (show bigL S 8 ++ bigL N 4 = so by rw [← hso, stampN, hq, hr, hS, hN])
    unfold epochN at hS
    have hSb : S < 18446744073709551616 := by omega
    have hNb : N < 18446744073709551616 := by omega
    have B8 := Lib.hid (fun w' => big_any S hSb 8 (by omega) (by omega) w')
    have B4 := Lib.hid (fun w' => big_any N hNb 4 (by omega) (by omega) w')
    have RC := Lib.hid (inRange_yes (n : Int) (by omega) (by omega))
    have q1 : ((n : Int)).tdiv 1000 = (q : Int) := by rw [Int.tdiv_eq_ediv_of_nonneg (by omega)]; omega
    have q2 : (n : Int) / 1000 = (q : Int) := by omega
    have q0 : IntKind.i64.wrap (q : Int) = (q : Int) := IntWalk.i64_in _ (by omega)
    have r0 : IntKind.i64.wrap (r : Int) = (r : Int) := IntWalk.i64_in _ (by omega)
    have q3 : IntKind.u64.wrap (q : Int) = (q : Int) := by rw [IntKind.wrap_u64]; omega
    have q4 : IntKind.u64.wrap (4611686018427387914 + (q : Int)) = (S : Int) := by rw [IntKind.wrap_u64]; omega
    have r1 : ((n : Int)).tmod 1000 = (r : Int) := by rw [Int.tmod_eq_emod_of_nonneg (by omega)]; omega
    have r2 : (n : Int) % 1000 = (r : Int) := by omega
    have r3 : IntKind.u64.wrap (r : Int) = (r : Int) := by rw [IntKind.wrap_u64]; omega
    have r4 : IntKind.u64.wrap ((r : Int) * 1000000) = (N : Int) := by rw [IntKind.wrap_u64]; omega
    have q5 : (q : Int) % 18446744073709551616 = (q : Int) := by omega
    have q6 : (4611686018427387914 + (q : Int)) % 18446744073709551616 = (S : Int) := by omega
    have r5 : (r : Int) % 18446744073709551616 = (r : Int) := by omega
    have r6 : ((r : Int) * 1000000) % 18446744073709551616 = (N : Int) := by omega
    clear hq hr hS hN hso hqb hrb hSb hNb ht1 ht2
    go_enter Try.func8, Try.ntmps8
    go_upto_region 1 with fail
    generalize w.alloc (.cells #[.int .u8 0, .int .u8 0, .int .u8 0, .int .u8 0, .int .u8 0, .int .u8 0, .int .u8 0, .int .u8 0, .int .u8 0, .int .u8 0, .int .u8 0, .int .u8 0] 23) = w1 at HM ⊢
    go_wp2_with fail
    refine (RC.out _).mono ?_
    rintro e wy ⟨rfl, hb⟩
    replace HM := Lib.hid (HM.out.below hb)
    clear hb
    go_wp2_with fail
    refine (B8.out _).mono ?_
    rintro e w2 ⟨rfl, ho, hb⟩
    have h2 := HM.out.callRd hb ho
    generalize wy.heap.size = g1 at h2 ⊢
    replace HM := Lib.hid (show Mem w [rdE g1 w2.heap.size (some ⟨g1, 0, none⟩) 8 (bigL S 8), blkE w.heap.size 23 (aeZ 12)] w2 from h2)
    clear hb ho h2
    go_wp2_with fail
    refine (B4.out _).mono ?_
    rintro e w3 ⟨rfl, ho, hb⟩
    have h2 := HM.out.callRd hb ho
    generalize w2.heap.size = g2 at h2 ⊢
    replace HM := Lib.hid (show Mem w [rdE g2 w3.heap.size (some ⟨g2, 0, none⟩) 4 (bigL N 4), rdE g1 g2 (some ⟨g1, 0, none⟩) 8 (bigL S 8), blkE w.heap.size 23 (aeZ 12)] w3 from h2)
    clear hb ho h2 q0 q1 q2 q3 q4 q5 q6 r0 r1 r2 r3 r4 r5 r6
    go_wp2_with fail
    replace HM := Lib.hid (HM.out.alloc rfl 35 #[Value.slice (some ⟨g1, 0, none⟩) 8 8, .slice (some ⟨g2, 0, none⟩) 4 4] [Value.slice (some ⟨g1, 0, none⟩) 8 8, .slice (some ⟨g2, 0, none⟩) 4 4] rfl)
    generalize w3.alloc (.cells #[Value.slice (some ⟨g1, 0, none⟩) 8 8, .slice (some ⟨g2, 0, none⟩) 4 4] 35) = w4 at HM ⊢
    generalize w3.heap.size = g3 at HM ⊢
    refine (coJoin_two g3 35 _ _ 8 8 4 4 _ _ 12 rfl (by omega) (by omega) _ (HM.out.blk 0 rfl) (HM.out.rd 2 rfl) (HM.out.rd 1 rfl)).mono ?_
    rintro e w5 ⟨g4, c4, rfl, hrd, hb⟩
    rw [HEQ.out] at hrd
    have HR := Lib.hid hrd
    replace HM := Lib.hid (show Mem w [blkE w.heap.size 23 (aeZ 12)] w5 from ((((HM.out.below hb).erase 0).erase 0).erase 0))
    clear hrd hb HEQ
    have hA := run_arrayAt (P := Try.prog) w5 23 g4 12 c4 12 5 Try.underlying23 (Nat.le_refl _)
    go_wp2_with (first | (refine wpList_load_off rfl 23 (.tmp 23) rfl g4 0 rfl (so.map u8v) HR.out.cells 12 5 Try.underlying23 (stampCells so HSL.out) ?_; rw [HCO.out]) | (refine wpList_store_blk rfl 23 (.tmp 2) (.tmp 24) rfl w.heap.size (so.map u8v) rfl (by show Value.agg co = _; rw [HCO.out]) 23 (aeZ 12) (HM.out.blk 0 rfl) (stampCells so HSL.out) (by rw [List.length_map, HSL.out]; rfl) (u8v_one _) ?_; intro w9 hb9 hg9))
    exact bodyPost_ret (results_blk rfl _ _ w.heap.size 23 (so.map u8v) 12 5 rfl hb9 Try.underlying23 (stampCells so HSL.out)) rfl ⟨by rw [HCO.out], (HM.out.put 0 rfl _ hg9 hb9).bel⟩
end Go.Proofs.Ytmbcohhnnlpnaaa
