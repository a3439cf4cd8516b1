/-
  The contract of the program's Push. No statement is proved here.
-/
import Derived.Test.YtnmjcibhggchkaaStCopies
import Derived.Test.YtnmjcibhggchkaaRtApp
import Derived.Test.YtnmjcibhggchkaaMinK
import Derived.Test.YtnmjcibhggchkaaMaxInt
import Derived.Test.YtnmjcibhggchkaaAtOp
import Derived.RegionTactic
import Derived.Deep.DeepCutAuto
namespace Go.Proofs.Ytnmjcibhggchkaa
open Go.RowKit

theorem wpList_append_full {P : Program} (w : World) {ops : Array Oper} {rest : List Oper} {o : Oper} {a : Act} {Q : Exit → Act → World → Prop} (hgd : o.guard = none) (s x : Operand) (t : TypeId)
    (ho : o.op = .call { callee := .builtin .append, args := #[s, x], argTypes := #[t, t] })
    (e : TypeId) (i : TypeInfo) (z : Value) (size bytes : Nat) (ht : P.underlying t = some (.slice e)) (hi : P.info? e = some i) (hz : i.zero = some z) (hsize : i.size = size) (hby : i.bytes = bytes) (hzs : z.cells.size = size)
    (B : Nat) (A : Option Addr) (n c : Nat) (hs : a.eval s = .slice A n c) (hcn : n = 0 ∧ A = none ∧ c = 0 ∨ c = n ∧ A ≠ none) (os : List (List Value)) (hr : RdRow w B A size n os)
    (B' : Nat) (A' : Option Addr) (m c' : Nat) (hx : a.eval x = .slice A' m c') (hm : 0 < m) (os' : List (List Value)) (hr' : RdRow w B' A' size m os') (h63 : n + m ≤ maxLen) (hbytes : (n + m) * bytes ≤ 140737488355328)
    (h : ∀ v' w', w'.ownsRow w.heap.size e size v' (n + m) (os.flatten ++ os'.flatten) → Below w.heap.size w w' → wpList P ops Q rest (a.put o.dst v') w') : wpList P ops Q (o :: rest) a w :=
  wpList_step fun _ hK => step_append_full w hgd s x t ho e i z size bytes ht hi hz hsize hby hzs B A n c hs hcn os hr B' A' m c' hx hm os' hr' h63 hbytes (fun v' w' h1 h2 => hK _ _ (h v' w' h1 h2))
set_option maxRecDepth 100000 in
set_option maxHeartbeats 8000000 in
theorem stPushC : StPushC 8 := by
  intro A n c ps cap p w ha hp hps hc1 hc2
  obtain ⟨i0, hi, hz0, hz1, hz2⟩ := info_parts pksInfo
  have HI := Lib.hid (And.intro hi (And.intro hz0 (And.intro hz1 hz2)))
  have HA := Lib.hid ha
  have HP := Lib.hid hp
  have HPS := Lib.hid hps
  obtain ⟨k, hk⟩ : ∃ z, (max cap 0).toNat = z := ⟨_, rfl⟩
  have hmax : max cap 0 = (k : Int) := by omega
  obtain ⟨mk, hmk⟩ : ∃ z, min (n + 1) k = z := ⟨_, rfl⟩
  have hmin : min ((n + 1 : Nat) : Int) (k : Int) = (mk : Int) := by omega
  obtain ⟨out, hout⟩ : ∃ z, n + 1 - k = z := ⟨_, rfl⟩
  obtain ⟨m, hm⟩ : ∃ z, n + 1 = z := ⟨_, rfl⟩
  rw [hm] at hmin
  have hfew := ha.few
  have e1 : (m : Int) - (mk : Int) = (out : Int) := by omega
  have w1' : IntKind.i64.wrap (out : Int) = (out : Int) := by rw [IntKind.wrap_i64]; omega
  have HMM := Lib.hid (show out ≤ m ∧ m ≤ 1001 from by omega)
  have HPM := Lib.hid (show pushM (psB ps) cap p.l = ((psB (ps ++ [p])).drop out, out) from by
    have h1 : (psB ps ++ [p.l]) = psB (ps ++ [p]) := by simp [psB]
    have h2 : (psB (ps ++ [p])).length = n + 1 := by rw [psB_len, List.length_append, ha.rd.len]; rfl
    rw [pushM, hk, h1, h2, hout])
  have HM1 := Lib.hid hm
  rw [HPM.out]
  obtain ⟨pn, hpn⟩ : ∃ z, p.n = z := ⟨_, rfl⟩
  obtain ⟨pc, hpc⟩ : ∃ z, p.c = z := ⟨_, rfl⟩
  obtain ⟨pA, hpA⟩ : ∃ z, p.A = z := ⟨_, rfl⟩
  have HPV := Lib.hid (show pkV p = .slice pA pn pc from by rw [pkV, hpn, hpc, hpA])
  rw [hpn, hpc, hpA]
  have HMAX := Lib.hid hmax
  have HMIN := Lib.hid hmin
  clear hpn hpc hpA hi hz0 hz1 hz2 ha hp hps hc1 hc2 hk hmk hout hm hfew hmax hmin
  go_enter Try.func8, Try.ntmps8
  go_wp2_with fail
  refine (behind_any A n c 0 (Nat.zero_le _) HA.out.le w).mono ?_
  rintro e w1 ⟨rfl, rfl⟩
  rw [Nat.sub_zero]
  have HR0 := Lib.hid (show RdRow w1 w1.heap.size (addrK A 0 n 1) 1 n (pksV ps) from by
    have h := HA.out.rd.1.ahead n n (Nat.le_refl _)
    rwa [List.take_of_length_le (by rw [pksV_len, HA.out.rd.len]; exact Nat.le_refl _)] at h)
  have HCN := Lib.hid (show n = 0 ∧ addrK A 0 n 1 = none ∧ n = 0 ∨ n = n ∧ addrK A 0 n 1 ≠ none from by
    cases A with
    | none =>
      refine .inl ?_
      have h0 : n = 0 := by
        rcases Nat.eq_zero_or_pos n with h | h
        · exact h
        · obtain ⟨_, _, e⟩ := HA.out.rd.addr h
          cases e
      exact ⟨h0, addrK_none, h0⟩
    | some ad =>
      refine .inr ⟨rfl, fun e => ?_⟩
      unfold addrK at e
      split at e <;> cases e)
  obtain ⟨A1, hA1⟩ : ∃ z, addrK A 0 n 1 = z := ⟨_, rfl⟩
  rw [hA1] at HR0 HCN ⊢
  clear hA1
  have HNB := Lib.hid ((Below.refl w1.heap.size w1).alloc (Nat.le_refl _) (.cells #[.slice pA pn pc] 23))
  have HX := Lib.hid (show RdRow (w1.alloc (.cells #[.slice pA pn pc] 23)) (w1.alloc (.cells #[.slice pA pn pc] 23)).heap.size (some ⟨w1.heap.size, 0, none⟩) 1 1 (pksV [p]) from by
    refine blk_row (t := 23) (rest := []) ?_ (pksV_size _) rfl
    rw [List.append_nil, pksV_flat]
    show Blk _ _ _ [pkV p]
    rw [HPV.out]
    exact Blk.new w1 23 [.slice pA pn pc])
  go_upto_region 2 with (refine wpList_append_full _ rfl (.tmp 11) (.tmp 13) 22 rfl 23 i0 _ 1 24 Try.underlying22 HI.out.1 HI.out.2.1 HI.out.2.2.1 HI.out.2.2.2 rfl _ A1 n n rfl (HCN.out.imp id (fun h => ⟨rfl, h.2⟩)) (pksV ps) (HR0.out.below HNB.out) _ (some ⟨w1.heap.size, 0, none⟩) 1 1 rfl (by omega) (pksV [p]) HX.out (by unfold maxLen; have := HA.out.few; omega) (by have := HA.out.few; omega) ?_; intro v2 w2 ho2 hb2)
  obtain ⟨A2, c2, rfl, h2n, h2c, _⟩ := own_sliceK ho2
  have hflat : (pksV ps).flatten ++ (pksV [p]).flatten = (pksV (ps ++ [p])).flatten := by rw [pksV_flat, pksV_flat, pksV_flat, List.map_append]
  rw [hflat] at ho2
  rw [HM1.out] at ho2 h2n ⊢
  have hbel : Below w1.heap.size w1 w2 := HNB.out.trans (hb2.mono HNB.out.size)
  have HB := Lib.hid hbel
  have HR := Lib.hid (show PkRd w2 w2.heap.size A2 m (ps ++ [p]) from PkRd.of_own (by rw [List.length_append, HA.out.rd.len]; exact HM1.out) (fun q hq => by
    rcases List.mem_append.1 hq with h | h
    · exact ((HA.out.rd.2 q h).below hbel).mono hbel.size
    · rw [List.mem_singleton.1 h]
      exact (HP.out.below hbel).mono hbel.size) ho2)
  have HSM := Lib.hid (show ∀ q ∈ ps ++ [p], q.n ≤ 100000 from fun q hq => by
    rcases List.mem_append.1 hq with h | h
    · exact HA.out.small q h
    · rw [List.mem_singleton.1 h]
      exact HPS.out)
  have H2N := Lib.hid h2n
  clear ho2 hb2 hbel h2n h2c hflat HNB HX HR0 HCN HA HP HI
  have hmax := HMAX.out
  have hmin := HMIN.out
  go_upto_region 3 with (first | refine wpList_max_k rfl (.tmp 19) (.const (.int .i64 0)) _ rfl .i64 cap 0 (k : Int) rfl rfl HMAX.out ?_ | refine wpList_min_k rfl (.tmp 18) (.tmp 20) _ rfl .i64 (m : Int) (k : Int) (mk : Int) rfl rfl HMIN.out ?_)
  clear hmax hmin
  go_wp2_with fail
  refine (behind_any A2 m c2 out HMM.out.1 H2N.out w2).mono ?_
  rintro e w3 ⟨rfl, rfl⟩
  go_wp2_with fail
  have hrb := HR.out.behind out m HMM.out.1 (Nat.le_refl _)
  refine (copies_any (addrK A2 out m 1) (m - out) (m - out) ((ps ++ [p]).drop out) (by have := HMM.out; omega) w3 hrb (fun q hq => HSM.out q (List.mem_of_mem_drop hq))).mono ?_
  rintro e w4 ⟨A4, qs, rfl, hr4, hq4, hb4⟩
  have HF := Lib.hid (show PkRes w4 A4 (m - out) (m - out) qs from ⟨Nat.le_refl _, by have := HMM.out; unfold maxLen; omega, hr4⟩)
  have HQ := Lib.hid (show psB qs = (psB (ps ++ [p])).drop out from by rw [hq4, psB, psB, List.map_drop])
  have HB4 := Lib.hid (HB.out.trans (hb4.mono HB.out.size))
  clear hr4 hq4 hb4 hrb
  go_wp2
  go_ret2
  exact ⟨A4, m - out, m - out, qs, rfl, HF.out, HQ.out, HB4.out⟩
end Go.Proofs.Ytnmjcibhggchkaa
